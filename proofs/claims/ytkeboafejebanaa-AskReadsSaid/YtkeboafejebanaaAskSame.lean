/-
  Contracts of ask.all, slices.Equal and ask.Same.
-/
import Derived.Test.YtkeboafejebanaaAskMem
import Derived.Deep.QuietTactic
import Derived.BigQuiet
import Derived.ChangeKeysEq
namespace Go.Proofs.Ytkeboafejebanaa.W
set_option linter.unusedVariables false
set_option linter.unusedSimpArgs false
open Go.ChangeShapes Go.WideShapes Go.ChangeAt Go.RowKit

theorem heap_up {w : World} {o x : Obj} {i : Nat} (h : w.heap[i]? = some x) : (w.alloc o).heap[i]? = some x := by
  have hl : i < w.heap.size := by
    rcases Nat.lt_or_ge i w.heap.size with h' | h'
    · exact h'
    · rw [Array.getElem?_eq_none h'] at h; cases h
  show (w.heap.push o)[i]? = some x
  rw [Array.getElem?_push, if_neg (Nat.ne_of_lt hl)]
  exact h
theorem heap_top {w : World} {o : Obj} {i : Nat} (h : i = w.heap.size) : (w.alloc o).heap[i]? = some o := by
  subst h
  show (w.heap.push o)[w.heap.size]? = some o
  simp
theorem below_setRow {B : Nat} {w W : World} (h : Below B w W) {g : Nat} (hg : B ≤ g) (cs : Array Value) : Below B w (W.setRow g cs) :=
  ⟨h.os, h.tape, h.output, by simpa using h.size, fun k hk => (setRow_other W g k cs (by omega)).trans (h.block k hk)⟩
set_option maxHeartbeats 2000000 in
theorem all16 (q : Rq) (w : World) : Calls Try.prog 37 #[.agg #[.int .i64 q.kind, .int .i64 q.key, .int .i64 (q.n 1), .int .i64 (q.n 2), .int .i64 (q.n 3), .int .i64 (q.n 4), .int .i64 (q.n 5), .int .i64 (q.n 6), .int .i64 (q.n 7), .int .i64 (q.n 8), .int .i64 (q.n 9), .int .i64 (q.n 10), .slice q.aa q.af.length q.ac, .int .i64 (q.n 11), .int .i64 (q.n 12), .int .i64 (q.n 13), .int .i64 (q.n 14)]] w fun e w' => e = .returned (.agg #[.int .i64 q.kind, .int .i64 q.key, .int .i64 (q.n 1), .int .i64 (q.n 2), .int .i64 (q.n 3), .int .i64 (q.n 4), .int .i64 (q.n 5), .int .i64 (q.n 6), .int .i64 (q.n 7), .int .i64 (q.n 8), .int .i64 (q.n 9), .int .i64 (q.n 10), .int .i64 (q.n 11), .int .i64 (q.n 12), .int .i64 (q.n 13), .int .i64 (q.n 14)]) ∧ Below w.heap.size w w' := by
  go_enter Try.func37, Try.ntmps37
  go_wp2_with ((refine wpList_store_row rfl 65 (.tmp 2) (.tmp 39) rfl (w.heap.size + 1) _ rfl rfl 65 #[.int .i64 0, .int .i64 0, .int .i64 0, .int .i64 0, .int .i64 0, .int .i64 0, .int .i64 0, .int .i64 0, .int .i64 0, .int .i64 0, .int .i64 0, .int .i64 0, .int .i64 0, .int .i64 0, .int .i64 0, .int .i64 0] (by repeat (first | (refine heap_top (by first | omega | (simp only [World.size_alloc]; done) | (simp only [World.size_alloc]; omega))) | refine heap_up ?_)) (by kernel_rfl) (by simp) (by simp [Value.oneCell']) ?_; generalize hw9 : World.setRow _ _ _ = w9))
  have hb9 : Below w.heap.size w w9 := by rw [← hw9]; exact below_setRow ((by repeat' (first | exact Below.refl _ _ | assumption | exact And.left (by assumption) | refine Below.drew ?_ | refine below_drewN ?_ _ | refine Below.setCell ?_ (by first | (simp; done) | (simp; omega) | omega) _ | refine Below.alloc ?_ (by first | (simp; done) | (simp; omega) | omega) _ | refine after (by assumption) (by first | (simp; done) | (simp; omega) | omega) ?_))) (by omega) _
  have hg9 : w9.heap[w.heap.size + 1]? = some (.cells #[.int .i64 q.kind, .int .i64 q.key, .int .i64 (q.n 1), .int .i64 (q.n 2), .int .i64 (q.n 3), .int .i64 (q.n 4), .int .i64 (q.n 5), .int .i64 (q.n 6), .int .i64 (q.n 7), .int .i64 (q.n 8), .int .i64 (q.n 9), .int .i64 (q.n 10), .int .i64 (q.n 11), .int .i64 (q.n 12), .int .i64 (q.n 13), .int .i64 (q.n 14)] 65 (0, 0)) := by rw [← hw9]; exact setRow_heap _ _ _ _ _ _ (by repeat (first | (refine heap_top (by first | omega | (simp only [World.size_alloc]; done) | (simp only [World.size_alloc]; omega))) | refine heap_up ?_))
  clear hw9
  go_wp2
  refine bodyPost_ret (results_cell_row (by simp [results, Try.results37]; rfl) _ _ (w.heap.size + 1) _ _ _ _ rfl hg9 Try.underlying65 rfl (by kernel_rfl)) rfl ⟨rfl, hb9⟩
theorem take_eq_succ {x y : List (Int × Bool)} {k : Nat} (h : x.take k = y.take k) (hx : k < x.length) (hy : k < y.length) (e : x[k] = y[k]) : x.take (k + 1) = y.take (k + 1) := by
  rw [take_snoc x k hx, take_snoc y k hy, h, e]
set_option maxHeartbeats 2000000 in
theorem equalD (a b : Option Addr) (ca cb : Nat) (x y : List (Int × Bool)) (hx : x.length ≤ 1000) (hy : y.length ≤ 1000) (w : World) (ha : RowAt w a (depsV x)) (hb : RowAt w b (depsV y)) :
    Calls Try.prog 38 #[.slice a x.length ca, .slice b y.length cb] w fun e w' => e = .returned (.bool (decide (x = y))) ∧ Below w.heap.size w w' := by
  by_cases hl : x.length = y.length
  · have HA := Lib.hid ha
    have HB := Lib.hid hb
    have HL := Lib.hid hl
    clear ha hb
    rw [← hl]
    clear hl hy
    go_enter Try.func38, Try.ntmps38
    go_wp2
    go_loopw [13] (fun i wr => ∃ k : Nat, k ≤ x.length ∧ i = .int .i64 (k : Int) ∧ Hid (x.take k = y.take k) ∧ Below w.heap.size w wr) (fun i _ => x.length - (intOf i).toNat)
    case atStart => exact ⟨0, Nat.zero_le _, rfl, Lib.hid rfl, Below.refl _ _⟩
    case round =>
      obtain ⟨k, hk, rfl, HE, hbw⟩ := hrel
      by_cases hlt : k < x.length
      · have hlt2 : k < y.length := by have := HL.out; omega
        obtain ⟨b1, o1, e1, _, c1, c2⟩ := dep_at (HA.out.later hbw) hlt
        obtain ⟨b2, o2, e2, _, d1, d2⟩ := dep_at (HB.out.later hbw) hlt2
        have HT : Hid (x[k] = y[k] → x.take (k + 1) = y.take (k + 1)) := Lib.hid (fun e => take_eq_succ HE.out hlt hlt2 e)
        have HF := Lib.hid (fun (e : ¬ x[k] = y[k]) => (decide_eq_false (fun (h : x = y) => e (by subst h; rfl)) : decide (x = y) = false))
        have E1 := Lib.hid e1
        have E2 := Lib.hid e2
        clear e1 e2
        generalize x[k] = p at c1 c2 HT HF
        generalize y[k] = r at d1 d2 HT HF
        clear hlt2
        obtain ⟨p1, p2⟩ := p
        obtain ⟨r1, r2⟩ := r
        simp only at c1 c2 d1 d2
        obtain rfl := E1.out
        obtain rfl := E2.out
        by_cases he : p1 = r1
        · subst he
          by_cases he2 : p2 = r2
          · subst he2
            have HT2 := Lib.hid (HT.out rfl)
            clear HT HF
            go_wp2_with fail
            go_quiet (fail)
            go_wp2
            go_roundw
            case rel => exact ⟨k + 1, by omega, by go_num, HT2, (by repeat' (first | exact Below.refl _ _ | assumption | exact And.left (by assumption) | refine Below.drew ?_ | refine below_drewN ?_ _ | refine Below.setCell ?_ (by first | (simp; done) | (simp; omega) | omega) _ | refine Below.alloc ?_ (by first | (simp; done) | (simp; omega) | omega) _ | refine after (by assumption) (by first | (simp; done) | (simp; omega) | omega) ?_))⟩
            case measure => simp [intOf]; omega
          · have HD := Lib.hid (HF.out (fun h => he2 (by injection h)))
            have q1 : (p2 == r2) = false := by simpa using he2
            have q2 : (p2 != r2) = true := by simpa using he2
            clear he2
            go_wp2_with fail
            go_quiet (fail)
            go_wp2
            go_ret
            exact ⟨by rw [HD.out]; rfl, (by repeat' (first | exact Below.refl _ _ | assumption | exact And.left (by assumption) | refine Below.drew ?_ | refine below_drewN ?_ _ | refine Below.setCell ?_ (by first | (simp; done) | (simp; omega) | omega) _ | refine Below.alloc ?_ (by first | (simp; done) | (simp; omega) | omega) _ | refine after (by assumption) (by first | (simp; done) | (simp; omega) | omega) ?_))⟩
        · have HD := Lib.hid (HF.out (fun h => he (by injection h)))
          have q1 : (p1 == r1) = false := by simpa using he
          have q2 : (p1 != r1) = true := by simpa using he
          clear he
          go_wp2_with fail
          go_quiet (fail)
          go_wp2
          go_ret
          exact ⟨by rw [HD.out]; rfl, (by repeat' (first | exact Below.refl _ _ | assumption | exact And.left (by assumption) | refine Below.drew ?_ | refine below_drewN ?_ _ | refine Below.setCell ?_ (by first | (simp; done) | (simp; omega) | omega) _ | refine Below.alloc ?_ (by first | (simp; done) | (simp; omega) | omega) _ | refine after (by assumption) (by first | (simp; done) | (simp; omega) | omega) ?_))⟩
      · have hkl : k = x.length := by omega
        subst hkl
        have HD : Hid (decide (x = y) = true) := Lib.hid (decide_eq_true (by
          have h1 := HE.out
          have h2 := HL.out
          rw [List.take_length] at h1
          rw [h1, List.take_of_length_le (by omega)]))
        go_wp2
        go_ret
        exact ⟨by rw [HD.out]; rfl, hbw⟩
  · have HD : Hid (decide (x = y) = false) := Lib.hid (decide_eq_false (fun e => hl (by rw [e])))
    have h1 : ¬ ((x.length : Int) = (y.length : Int)) := by omega
    have h2 : ((x.length : Int) == (y.length : Int)) = false := by simpa using h1
    have h3 : ((x.length : Int) != (y.length : Int)) = true := by simpa using h1
    clear hl ha hb
    go_enter Try.func38, Try.ntmps38
    go_wp2
    go_ret
    exact ⟨by rw [HD.out]; rfl, Below.refl _ _⟩
def Rq.k (q : Rq) (i : Nat) : Int := if i = 0 then q.kind else if i = 1 then q.key else q.n (i - 1)
def eqA (a b : Rq) : Bool := (List.range 16).all fun i => a.k i == b.k i
theorem eqA_same (a b : Rq) : sameQ a b = (eqA a b && decide (a.af = b.af)) := by
  rw [Bool.eq_iff_iff, sameQ_iff, Bool.and_eq_true, decide_eq_true_eq]
  unfold eqA
  rw [List.all_eq_true]
  constructor
  · rintro ⟨h1, h2, h3, h4⟩
    refine ⟨fun i hi => ?_, h3⟩
    have hi' := List.mem_range.1 hi
    unfold Rq.k
    by_cases e0 : i = 0
    · simp [e0, h1]
    · by_cases e1 : i = 1
      · simp [e1, h2]
      · simp [e0, e1, h4 (i - 1) (by omega) (by omega)]
  · rintro ⟨h, h3⟩
    have hk : ∀ i, i < 16 → a.k i = b.k i := fun i hi => by simpa using h i (List.mem_range.2 hi)
    refine ⟨hk 0 (by decide), hk 1 (by decide), h3, fun i h1 h2 => ?_⟩
    have := hk (i + 1) (by omega)
    unfold Rq.k at this
    rwa [if_neg (by omega), if_neg (by omega), if_neg (by omega), if_neg (by omega), show i + 1 - 1 = i by omega] at this
theorem run_items {P : Program} (w : World) {e : TypeId} {k : IntKind} (he : P.plainKey e = true) (hu : P.underlying e = some (.int k)) (d : Nat) (xs ys : Array Value) (x y : Nat → Int) :
    ∀ (is : List Nat), (∀ i ∈ is, xs[i]? = some (.int k (x i)) ∧ ys[i]? = some (.int k (y i))) → (Op.eqItems (d + 1) e 1 xs ys is).run P w = .ok (is.all fun i => x i == y i) w
  | [], _ => by simp [Op.eqItems]
  | i :: is, h => by
    have h1 := h i (by simp)
    have ih := run_items w he hu d xs ys x y is (fun j hj => h j (by simp [hj]))
    simp only [Op.eqItems, Sem.run_bind, Nat.mul_one, run_part_plain w he h1.1, run_part_plain w he h1.2, Result.andThen_ok, run_equalIn_int w d e k k (x i) (y i) hu]
    cases hx : x i == y i
    · simp [hx]
    · simp [hx, ih]
theorem eq_run (a b : Rq) (w : World) : (Op.equalIn 10000 65 (.agg #[.int .i64 a.kind, .int .i64 a.key, .int .i64 (a.n 1), .int .i64 (a.n 2), .int .i64 (a.n 3), .int .i64 (a.n 4), .int .i64 (a.n 5), .int .i64 (a.n 6), .int .i64 (a.n 7), .int .i64 (a.n 8), .int .i64 (a.n 9), .int .i64 (a.n 10), .int .i64 (a.n 11), .int .i64 (a.n 12), .int .i64 (a.n 13), .int .i64 (a.n 14)]) (.agg #[.int .i64 b.kind, .int .i64 b.key, .int .i64 (b.n 1), .int .i64 (b.n 2), .int .i64 (b.n 3), .int .i64 (b.n 4), .int .i64 (b.n 5), .int .i64 (b.n 6), .int .i64 (b.n 7), .int .i64 (b.n 8), .int .i64 (b.n 9), .int .i64 (b.n 10), .int .i64 (b.n 11), .int .i64 (b.n 12), .int .i64 (b.n 13), .int .i64 (b.n 14)])).run Try.prog w = .ok (eqA a b) w := by
  obtain ⟨i0, hi, _⟩ := info_parts infoI
  rw [show (10000 : Nat) = 9999 + 1 from rfl, run_equalIn_array w 9999 _ _ Try.underlying65 hi, show Try.prog.cellsOf 3 = 1 by kernel_rfl, show (9999 : Nat) = 9998 + 1 from rfl]
  refine run_items w (by kernel_rfl) Try.underlying3 9998 _ _ a.k b.k _ ?_
  intro i hi
  have hi' := List.mem_range.1 hi
  match i, hi' with
  | 0, _ | 1, _ | 2, _ | 3, _ | 4, _ | 5, _ | 6, _ | 7, _ | 8, _ | 9, _ | 10, _ | 11, _ | 12, _ | 13, _ | 14, _ | 15, _ => exact ⟨rfl, rfl⟩
  | n + 16, h => omega

def sameSp (w : World) (a b : Rq) (f : Bool) : List Sp :=
  [Sp.c (.agg #[.int .i64 a.kind, .int .i64 a.key, .int .i64 (a.n 1), .int .i64 (a.n 2), .int .i64 (a.n 3), .int .i64 (a.n 4), .int .i64 (a.n 5), .int .i64 (a.n 6), .int .i64 (a.n 7), .int .i64 (a.n 8), .int .i64 (a.n 9), .int .i64 (a.n 10), .slice a.aa a.af.length a.ac, .int .i64 (a.n 11), .int .i64 (a.n 12), .int .i64 (a.n 13), .int .i64 (a.n 14)]) [],
   Sp.c (.agg #[.int .i64 a.kind, .int .i64 a.key, .int .i64 (a.n 1), .int .i64 (a.n 2), .int .i64 (a.n 3), .int .i64 (a.n 4), .int .i64 (a.n 5), .int .i64 (a.n 6), .int .i64 (a.n 7), .int .i64 (a.n 8), .int .i64 (a.n 9), .int .i64 (a.n 10), .int .i64 (a.n 11), .int .i64 (a.n 12), .int .i64 (a.n 13), .int .i64 (a.n 14)]) [0],
   Sp.c (.agg #[.int .i64 b.kind, .int .i64 b.key, .int .i64 (b.n 1), .int .i64 (b.n 2), .int .i64 (b.n 3), .int .i64 (b.n 4), .int .i64 (b.n 5), .int .i64 (b.n 6), .int .i64 (b.n 7), .int .i64 (b.n 8), .int .i64 (b.n 9), .int .i64 (b.n 10), .slice b.aa b.af.length b.ac, .int .i64 (b.n 11), .int .i64 (b.n 12), .int .i64 (b.n 13), .int .i64 (b.n 14)]) [],
   Sp.c (.agg #[.int .i64 b.kind, .int .i64 b.key, .int .i64 (b.n 1), .int .i64 (b.n 2), .int .i64 (b.n 3), .int .i64 (b.n 4), .int .i64 (b.n 5), .int .i64 (b.n 6), .int .i64 (b.n 7), .int .i64 (b.n 8), .int .i64 (b.n 9), .int .i64 (b.n 10), .int .i64 (b.n 11), .int .i64 (b.n 12), .int .i64 (b.n 13), .int .i64 (b.n 14)]) [2],
   Sp.c (.bool f) [1, 3],
   Sp.c (.bool f) [4],
   Sp.g (f) (.pointer (some ⟨w.heap.size, 12, none⟩)) [5],
   Sp.g (f) (.slice a.aa a.af.length a.ac) [6, 5],
   Sp.g (f) (.pointer (some ⟨w.heap.size + 1, 12, none⟩)) [5],
   Sp.g (f) (.slice b.aa b.af.length b.ac) [8, 5],
   Sp.g (f) (.bool (decide (a.af = b.af))) [7, 9, 5],
   Sp.c (.bool (f && decide (a.af = b.af))) [5, 10],
   Sp.c (.bool (f && decide (a.af = b.af))) [11]]
set_option maxRecDepth 100000 in
set_option maxHeartbeats 4000000 in
theorem same_yes (a b : Rq) (hfa : a.af.length ≤ 1000) (hfb : b.af.length ≤ 1000) (w : World) (ha : RowAt w a.aa (depsV a.af)) (hb : RowAt w b.aa (depsV b.af)) (he : eqA a b = true) :
    Calls Try.prog 16 #[.agg #[.int .i64 a.kind, .int .i64 a.key, .int .i64 (a.n 1), .int .i64 (a.n 2), .int .i64 (a.n 3), .int .i64 (a.n 4), .int .i64 (a.n 5), .int .i64 (a.n 6), .int .i64 (a.n 7), .int .i64 (a.n 8), .int .i64 (a.n 9), .int .i64 (a.n 10), .slice a.aa a.af.length a.ac, .int .i64 (a.n 11), .int .i64 (a.n 12), .int .i64 (a.n 13), .int .i64 (a.n 14)], .agg #[.int .i64 b.kind, .int .i64 b.key, .int .i64 (b.n 1), .int .i64 (b.n 2), .int .i64 (b.n 3), .int .i64 (b.n 4), .int .i64 (b.n 5), .int .i64 (b.n 6), .int .i64 (b.n 7), .int .i64 (b.n 8), .int .i64 (b.n 9), .int .i64 (b.n 10), .slice b.aa b.af.length b.ac, .int .i64 (b.n 11), .int .i64 (b.n 12), .int .i64 (b.n 13), .int .i64 (b.n 14)]] w fun e w' => e = .returned (.bool (true && decide (a.af = b.af))) ∧ Below w.heap.size w w' := by
  have HE := fun w => eq_run a b w
  rw [he] at HE
  have HA := Lib.hid ha
  have HB := Lib.hid hb
  clear ha hb he
  go_enter Try.func16, Try.ntmps16
  go_wp2_with fail
  generalize hw0 : World.alloc (World.alloc w _) _ = w0
  have hb0 : Below w.heap.size w w0 := by rw [← hw0]; exact (by repeat' (first | exact Below.refl _ _ | assumption | exact And.left (by assumption) | refine Below.drew ?_ | refine below_drewN ?_ _ | refine Below.setCell ?_ (by first | (simp; done) | (simp; omega) | omega) _ | refine Below.alloc ?_ (by first | (simp; done) | (simp; omega) | omega) _ | refine after (by assumption) (by first | (simp; done) | (simp; omega) | omega) ?_))
  have HBA : Hid (BoxQ w0 w.heap.size a) := Lib.hid (by rw [← hw0]; exact (BoxQ.new w a).alloc _)
  have HBB : Hid (BoxQ w0 (w.heap.size + 1) b) := Lib.hid (by rw [← hw0]; simpa using BoxQ.new (w.alloc (.cells #[.int .i64 a.kind, .int .i64 a.key, .int .i64 (a.n 1), .int .i64 (a.n 2), .int .i64 (a.n 3), .int .i64 (a.n 4), .int .i64 (a.n 5), .int .i64 (a.n 6), .int .i64 (a.n 7), .int .i64 (a.n 8), .int .i64 (a.n 9), .int .i64 (a.n 10), .slice a.aa a.af.length a.ac, .int .i64 (a.n 11), .int .i64 (a.n 12), .int .i64 (a.n 13), .int .i64 (a.n 14)] 26)) b)
  have HRA := Lib.hid (HA.out.later hb0)
  have HRB := Lib.hid (HB.out.later hb0)
  have hz0 := hb0.size
  clear hw0
  refine region_mono (sameSp w a b true) [5, 6, 7, 8, 9, 10, 11, 12, 13, 14, 15, 16, 4] (by kernel_rfl) (by kernel_rfl) (by kernel_rfl) (by kernel_rfl) (stables_cons (Sp.c_stable _ _) (stables_cons (Sp.c_stable _ _) (stables_cons (Sp.c_stable _ _) (stables_cons (Sp.c_stable _ _) (stables_cons (Sp.c_stable _ _) (stables_cons (Sp.c_stable _ _) (stables_cons (Sp.g_stable _ _ _) (stables_cons (Sp.g_stable _ _ _) (stables_cons (Sp.g_stable _ _ _) (stables_cons (Sp.g_stable _ _ _) (stables_cons (Sp.g_stable _ _ _) (stables_cons (Sp.c_stable _ _) (stables_cons (Sp.c_stable _ _) (trivial)))))))))))))) ?_ ?_
  · intro am wm L hbm hbase hbase2
    have s2 : am.tmps.getD 2 undef = .pointer (some ⟨w.heap.size, 0, none⟩) := (hbase 2 rfl).trans (by simp only [Array.getD_eq_getD_getElem?, List.getElem?_toArray, List.getElem?_cons_succ, List.getElem?_cons_zero, Option.getD_some])
    have s3 : am.tmps.getD 3 undef = .pointer (some ⟨w.heap.size + 1, 0, none⟩) := (hbase 3 rfl).trans (by simp only [Array.getD_eq_getD_getElem?, List.getElem?_toArray, List.getElem?_cons_succ, List.getElem?_cons_zero, Option.getD_some])
    clear hbase hbase2
    have bm := HBA.out.on hbm
    have bm3 := HBB.out.on hbm
    have x12 := bm.c12
    have y12 := bm3.c12
    have RA := HRA.out.later hbm
    have RB := HRB.out.later hbm
    refine steps_cons (fun hn hl => ?_) fun H0 => ?_
    · skip
      clear hn hl 
      refine stepC (wanted_free rfl) fun K hK => ?_
      exact wp_load_box (.tmp 2) rfl s2 bm (hK _ (Below.refl _ _))
    refine steps_cons (fun hn hl => ?_) fun H1 => ?_
    · skip
      have h5 := Sp.of_c (H0 (hn 0 (show 0 ∈ [0] from .head _)))
      clear hn hl H0
      refine stepC (wanted_free rfl) fun K hK => ?_
      go_simp
      first
        | ((with_reducible refine (all16 a _).mono ?_); rintro e w6 ⟨rfl, hb6⟩; exact hK _ hb6)
        | ((with_reducible refine (all16 b _).mono ?_); rintro e w6 ⟨rfl, hb6⟩; exact hK _ hb6)
        | ((with_reducible refine (equalD _ _ _ _ _ _ hfa hfb _ RA RB).mono ?_); rintro e w6 ⟨rfl, hb6⟩; exact hK _ hb6)
    refine steps_cons (fun hn hl => ?_) fun H2 => ?_
    · skip
      clear hn hl H0 H1
      refine stepC (wanted_free rfl) fun K hK => ?_
      exact wp_load_box (.tmp 3) rfl s3 bm3 (hK _ (Below.refl _ _))
    refine steps_cons (fun hn hl => ?_) fun H3 => ?_
    · skip
      have h7 := Sp.of_c (H2 (hn 2 (show 2 ∈ [2] from .head _)))
      clear hn hl H0 H1 H2
      refine stepC (wanted_free rfl) fun K hK => ?_
      go_simp
      first
        | ((with_reducible refine (all16 a _).mono ?_); rintro e w6 ⟨rfl, hb6⟩; exact hK _ hb6)
        | ((with_reducible refine (all16 b _).mono ?_); rintro e w6 ⟨rfl, hb6⟩; exact hK _ hb6)
        | ((with_reducible refine (equalD _ _ _ _ _ _ hfa hfb _ RA RB).mono ?_); rintro e w6 ⟨rfl, hb6⟩; exact hK _ hb6)
    refine steps_cons (fun hn hl => ?_) fun H4 => ?_
    · skip
      have h6 := Sp.of_c (H1 (hn 1 (show 1 ∈ [1, 3] from .head _)))
      have h8 := Sp.of_c (H3 (hn 3 (show 3 ∈ [1, 3] from .tail _ (.head _))))
      clear hn hl H0 H1 H2 H3
      refine stepC (wanted_free rfl) fun K hK => ?_
      go_simp
      exact hK _ (Below.refl _ _)
    refine steps_cons (fun hn hl => ?_) fun H5 => ?_
    · skip
      have h9 := Sp.of_c (H4 (hn 4 (show 4 ∈ [4] from .head _)))
      clear hn hl H0 H1 H2 H3 H4
      refine stepC (wanted_free rfl) fun K hK => ?_
      go_simp
      exact hK _ (Below.refl _ _)
    refine steps_cons (fun hn hl => ?_) fun H6 => ?_
    · skip
      have h10 := Sp.of_c (H5 (hn 5 (show 5 ∈ [5] from .head _)))
      clear hn hl H0 H1 H2 H3 H4 H5
      refine stepC (wanted_guard rfl rfl h10 rfl) fun K hK => ?_
      go_simp
      exact hK _ (Below.refl _ _)
    refine steps_cons (fun hn hl => ?_) fun H7 => ?_
    · skip
      have h11 := Sp.of_g (H6 (hn 6 (show 6 ∈ [6, 5] from .head _))) rfl
      have h10 := Sp.of_c (H5 (hn 5 (show 5 ∈ [6, 5] from .tail _ (.head _))))
      clear hn hl H0 H1 H2 H3 H4 H5 H6
      refine stepC (wanted_guard rfl rfl h10 rfl) fun K hK => ?_
      go_simp
      exact hK _ (Below.refl _ _)
    refine steps_cons (fun hn hl => ?_) fun H8 => ?_
    · skip
      have h10 := Sp.of_c (H5 (hn 5 (show 5 ∈ [5] from .head _)))
      clear hn hl H0 H1 H2 H3 H4 H5 H6 H7
      refine stepC (wanted_guard rfl rfl h10 rfl) fun K hK => ?_
      go_simp
      exact hK _ (Below.refl _ _)
    refine steps_cons (fun hn hl => ?_) fun H9 => ?_
    · skip
      have h13 := Sp.of_g (H8 (hn 8 (show 8 ∈ [8, 5] from .head _))) rfl
      have h10 := Sp.of_c (H5 (hn 5 (show 5 ∈ [8, 5] from .tail _ (.head _))))
      clear hn hl H0 H1 H2 H3 H4 H5 H6 H7 H8
      refine stepC (wanted_guard rfl rfl h10 rfl) fun K hK => ?_
      go_simp
      exact hK _ (Below.refl _ _)
    refine steps_cons (fun hn hl => ?_) fun H10 => ?_
    · skip
      have h12 := Sp.of_g (H7 (hn 7 (show 7 ∈ [7, 9, 5] from .head _))) rfl
      have h14 := Sp.of_g (H9 (hn 9 (show 9 ∈ [7, 9, 5] from .tail _ (.head _)))) rfl
      have h10 := Sp.of_c (H5 (hn 5 (show 5 ∈ [7, 9, 5] from .tail _ (.tail _ (.head _)))))
      clear hn hl H0 H1 H2 H3 H4 H5 H6 H7 H8 H9
      refine stepC (wanted_guard rfl rfl h10 rfl) fun K hK => ?_
      go_simp
      first
        | ((with_reducible refine (all16 a _).mono ?_); rintro e w6 ⟨rfl, hb6⟩; exact hK _ hb6)
        | ((with_reducible refine (all16 b _).mono ?_); rintro e w6 ⟨rfl, hb6⟩; exact hK _ hb6)
        | ((with_reducible refine (equalD _ _ _ _ _ _ hfa hfb _ RA RB).mono ?_); rintro e w6 ⟨rfl, hb6⟩; exact hK _ hb6)
    refine steps_cons (fun hn hl => ?_) fun H11 => ?_
    · skip
      have h10 := Sp.of_c (H5 (hn 5 (show 5 ∈ [5, 10] from .head _)))
      have h15 := Sp.of_g (H10 (hn 10 (show 10 ∈ [5, 10] from .tail _ (.head _)))) rfl
      clear hn hl H0 H1 H2 H3 H4 H5 H6 H7 H8 H9 H10
      refine stepC (wanted_free rfl) fun K hK => ?_
      go_simp
      exact hK _ (Below.refl _ _)
    refine steps_cons (fun hn hl => ?_) fun H12 => ?_
    · skip
      have h16 := Sp.of_c (H11 (hn 11 (show 11 ∈ [11] from .head _)))
      clear hn hl H0 H1 H2 H3 H4 H5 H6 H7 H8 H9 H10 H11
      refine stepC (wanted_free rfl) fun K hK => ?_
      go_simp
      exact hK _ (Below.refl _ _)
    exact trivial
  · intro w5 hb5
    have hz5 := hb5.size
    refine end_cons ?_; rintro _ rfl
    refine end_cons ?_; rintro _ rfl
    refine end_cons ?_; rintro _ rfl
    refine end_cons ?_; rintro _ rfl
    refine end_cons ?_; rintro _ rfl
    refine end_cons ?_; rintro _ rfl
    refine end_cons ?_; rintro _ rfl
    refine end_cons ?_; rintro _ rfl
    refine end_cons ?_; rintro _ rfl
    refine end_cons ?_; rintro _ rfl
    refine end_cons ?_; rintro _ rfl
    refine end_cons ?_; rintro _ rfl
    refine end_cons ?_; rintro _ rfl
    refine end_nil ?_
    simp only [List.setIfInBounds_toArray, List.set_cons_succ, List.set_cons_zero, Bool.not_false, Bool.not_true, Bool.true_or, Bool.or_true, Bool.false_or, Bool.or_false]
    go_wp2
    go_ret
    exact ⟨rfl, hb0.trans (hb5.mono hz0)⟩
set_option maxRecDepth 100000 in
set_option maxHeartbeats 4000000 in
theorem same_no (a b : Rq) (hfa : a.af.length ≤ 1000) (hfb : b.af.length ≤ 1000) (w : World) (ha : RowAt w a.aa (depsV a.af)) (hb : RowAt w b.aa (depsV b.af)) (he : eqA a b = false) :
    Calls Try.prog 16 #[.agg #[.int .i64 a.kind, .int .i64 a.key, .int .i64 (a.n 1), .int .i64 (a.n 2), .int .i64 (a.n 3), .int .i64 (a.n 4), .int .i64 (a.n 5), .int .i64 (a.n 6), .int .i64 (a.n 7), .int .i64 (a.n 8), .int .i64 (a.n 9), .int .i64 (a.n 10), .slice a.aa a.af.length a.ac, .int .i64 (a.n 11), .int .i64 (a.n 12), .int .i64 (a.n 13), .int .i64 (a.n 14)], .agg #[.int .i64 b.kind, .int .i64 b.key, .int .i64 (b.n 1), .int .i64 (b.n 2), .int .i64 (b.n 3), .int .i64 (b.n 4), .int .i64 (b.n 5), .int .i64 (b.n 6), .int .i64 (b.n 7), .int .i64 (b.n 8), .int .i64 (b.n 9), .int .i64 (b.n 10), .slice b.aa b.af.length b.ac, .int .i64 (b.n 11), .int .i64 (b.n 12), .int .i64 (b.n 13), .int .i64 (b.n 14)]] w fun e w' => e = .returned (.bool (false && decide (a.af = b.af))) ∧ Below w.heap.size w w' := by
  have HE := fun w => eq_run a b w
  rw [he] at HE
  have HA := Lib.hid ha
  have HB := Lib.hid hb
  clear ha hb he
  go_enter Try.func16, Try.ntmps16
  go_wp2_with fail
  generalize hw0 : World.alloc (World.alloc w _) _ = w0
  have hb0 : Below w.heap.size w w0 := by rw [← hw0]; exact (by repeat' (first | exact Below.refl _ _ | assumption | exact And.left (by assumption) | refine Below.drew ?_ | refine below_drewN ?_ _ | refine Below.setCell ?_ (by first | (simp; done) | (simp; omega) | omega) _ | refine Below.alloc ?_ (by first | (simp; done) | (simp; omega) | omega) _ | refine after (by assumption) (by first | (simp; done) | (simp; omega) | omega) ?_))
  have HBA : Hid (BoxQ w0 w.heap.size a) := Lib.hid (by rw [← hw0]; exact (BoxQ.new w a).alloc _)
  have HBB : Hid (BoxQ w0 (w.heap.size + 1) b) := Lib.hid (by rw [← hw0]; simpa using BoxQ.new (w.alloc (.cells #[.int .i64 a.kind, .int .i64 a.key, .int .i64 (a.n 1), .int .i64 (a.n 2), .int .i64 (a.n 3), .int .i64 (a.n 4), .int .i64 (a.n 5), .int .i64 (a.n 6), .int .i64 (a.n 7), .int .i64 (a.n 8), .int .i64 (a.n 9), .int .i64 (a.n 10), .slice a.aa a.af.length a.ac, .int .i64 (a.n 11), .int .i64 (a.n 12), .int .i64 (a.n 13), .int .i64 (a.n 14)] 26)) b)
  have HRA := Lib.hid (HA.out.later hb0)
  have HRB := Lib.hid (HB.out.later hb0)
  have hz0 := hb0.size
  clear hw0
  refine region_mono (sameSp w a b false) [5, 6, 7, 8, 9, 10, 11, 12, 13, 14, 15, 16, 4] (by kernel_rfl) (by kernel_rfl) (by kernel_rfl) (by kernel_rfl) (stables_cons (Sp.c_stable _ _) (stables_cons (Sp.c_stable _ _) (stables_cons (Sp.c_stable _ _) (stables_cons (Sp.c_stable _ _) (stables_cons (Sp.c_stable _ _) (stables_cons (Sp.c_stable _ _) (stables_cons (Sp.g_stable _ _ _) (stables_cons (Sp.g_stable _ _ _) (stables_cons (Sp.g_stable _ _ _) (stables_cons (Sp.g_stable _ _ _) (stables_cons (Sp.g_stable _ _ _) (stables_cons (Sp.c_stable _ _) (stables_cons (Sp.c_stable _ _) (trivial)))))))))))))) ?_ ?_
  · intro am wm L hbm hbase hbase2
    have s2 : am.tmps.getD 2 undef = .pointer (some ⟨w.heap.size, 0, none⟩) := (hbase 2 rfl).trans (by simp only [Array.getD_eq_getD_getElem?, List.getElem?_toArray, List.getElem?_cons_succ, List.getElem?_cons_zero, Option.getD_some])
    have s3 : am.tmps.getD 3 undef = .pointer (some ⟨w.heap.size + 1, 0, none⟩) := (hbase 3 rfl).trans (by simp only [Array.getD_eq_getD_getElem?, List.getElem?_toArray, List.getElem?_cons_succ, List.getElem?_cons_zero, Option.getD_some])
    clear hbase hbase2
    have bm := HBA.out.on hbm
    have bm3 := HBB.out.on hbm
    have x12 := bm.c12
    have y12 := bm3.c12
    have RA := HRA.out.later hbm
    have RB := HRB.out.later hbm
    refine steps_cons (fun hn hl => ?_) fun H0 => ?_
    · skip
      clear hn hl 
      refine stepC (wanted_free rfl) fun K hK => ?_
      exact wp_load_box (.tmp 2) rfl s2 bm (hK _ (Below.refl _ _))
    refine steps_cons (fun hn hl => ?_) fun H1 => ?_
    · skip
      have h5 := Sp.of_c (H0 (hn 0 (show 0 ∈ [0] from .head _)))
      clear hn hl H0
      refine stepC (wanted_free rfl) fun K hK => ?_
      go_simp
      first
        | ((with_reducible refine (all16 a _).mono ?_); rintro e w6 ⟨rfl, hb6⟩; exact hK _ hb6)
        | ((with_reducible refine (all16 b _).mono ?_); rintro e w6 ⟨rfl, hb6⟩; exact hK _ hb6)
        | ((with_reducible refine (equalD _ _ _ _ _ _ hfa hfb _ RA RB).mono ?_); rintro e w6 ⟨rfl, hb6⟩; exact hK _ hb6)
    refine steps_cons (fun hn hl => ?_) fun H2 => ?_
    · skip
      clear hn hl H0 H1
      refine stepC (wanted_free rfl) fun K hK => ?_
      exact wp_load_box (.tmp 3) rfl s3 bm3 (hK _ (Below.refl _ _))
    refine steps_cons (fun hn hl => ?_) fun H3 => ?_
    · skip
      have h7 := Sp.of_c (H2 (hn 2 (show 2 ∈ [2] from .head _)))
      clear hn hl H0 H1 H2
      refine stepC (wanted_free rfl) fun K hK => ?_
      go_simp
      first
        | ((with_reducible refine (all16 a _).mono ?_); rintro e w6 ⟨rfl, hb6⟩; exact hK _ hb6)
        | ((with_reducible refine (all16 b _).mono ?_); rintro e w6 ⟨rfl, hb6⟩; exact hK _ hb6)
        | ((with_reducible refine (equalD _ _ _ _ _ _ hfa hfb _ RA RB).mono ?_); rintro e w6 ⟨rfl, hb6⟩; exact hK _ hb6)
    refine steps_cons (fun hn hl => ?_) fun H4 => ?_
    · skip
      have h6 := Sp.of_c (H1 (hn 1 (show 1 ∈ [1, 3] from .head _)))
      have h8 := Sp.of_c (H3 (hn 3 (show 3 ∈ [1, 3] from .tail _ (.head _))))
      clear hn hl H0 H1 H2 H3
      refine stepC (wanted_free rfl) fun K hK => ?_
      go_simp
      exact hK _ (Below.refl _ _)
    refine steps_cons (fun hn hl => ?_) fun H5 => ?_
    · skip
      have h9 := Sp.of_c (H4 (hn 4 (show 4 ∈ [4] from .head _)))
      clear hn hl H0 H1 H2 H3 H4
      refine stepC (wanted_free rfl) fun K hK => ?_
      go_simp
      exact hK _ (Below.refl _ _)
    refine steps_cons (fun hn hl => ?_) fun H6 => ?_
    · skip
      have h10 := Sp.of_c (H5 (hn 5 (show 5 ∈ [5] from .head _)))
      clear hn hl H0 H1 H2 H3 H4 H5
      exact stepN (unwanted_guard rfl rfl h10 rfl)
    refine steps_cons (fun hn hl => ?_) fun H7 => ?_
    · skip
      have h11 := Sp.of_off (H6 (hn 6 (show 6 ∈ [6, 5] from .head _))) rfl
      have h10 := Sp.of_c (H5 (hn 5 (show 5 ∈ [6, 5] from .tail _ (.head _))))
      clear hn hl H0 H1 H2 H3 H4 H5 H6
      exact stepN (unwanted_guard rfl rfl h10 rfl)
    refine steps_cons (fun hn hl => ?_) fun H8 => ?_
    · skip
      have h10 := Sp.of_c (H5 (hn 5 (show 5 ∈ [5] from .head _)))
      clear hn hl H0 H1 H2 H3 H4 H5 H6 H7
      exact stepN (unwanted_guard rfl rfl h10 rfl)
    refine steps_cons (fun hn hl => ?_) fun H9 => ?_
    · skip
      have h13 := Sp.of_off (H8 (hn 8 (show 8 ∈ [8, 5] from .head _))) rfl
      have h10 := Sp.of_c (H5 (hn 5 (show 5 ∈ [8, 5] from .tail _ (.head _))))
      clear hn hl H0 H1 H2 H3 H4 H5 H6 H7 H8
      exact stepN (unwanted_guard rfl rfl h10 rfl)
    refine steps_cons (fun hn hl => ?_) fun H10 => ?_
    · skip
      have h12 := Sp.of_off (H7 (hn 7 (show 7 ∈ [7, 9, 5] from .head _))) rfl
      have h14 := Sp.of_off (H9 (hn 9 (show 9 ∈ [7, 9, 5] from .tail _ (.head _)))) rfl
      have h10 := Sp.of_c (H5 (hn 5 (show 5 ∈ [7, 9, 5] from .tail _ (.tail _ (.head _)))))
      clear hn hl H0 H1 H2 H3 H4 H5 H6 H7 H8 H9
      exact stepN (unwanted_guard rfl rfl h10 rfl)
    refine steps_cons (fun hn hl => ?_) fun H11 => ?_
    · skip
      have h10 := Sp.of_c (H5 (hn 5 (show 5 ∈ [5, 10] from .head _)))
      have h15 := Sp.of_off (H10 (hn 10 (show 10 ∈ [5, 10] from .tail _ (.head _)))) rfl
      clear hn hl H0 H1 H2 H3 H4 H5 H6 H7 H8 H9 H10
      refine stepC (wanted_free rfl) fun K hK => ?_
      go_simp
      exact hK _ (Below.refl _ _)
    refine steps_cons (fun hn hl => ?_) fun H12 => ?_
    · skip
      have h16 := Sp.of_c (H11 (hn 11 (show 11 ∈ [11] from .head _)))
      clear hn hl H0 H1 H2 H3 H4 H5 H6 H7 H8 H9 H10 H11
      refine stepC (wanted_free rfl) fun K hK => ?_
      go_simp
      exact hK _ (Below.refl _ _)
    exact trivial
  · intro w5 hb5
    have hz5 := hb5.size
    refine end_cons ?_; rintro _ rfl
    refine end_cons ?_; rintro _ rfl
    refine end_cons ?_; rintro _ rfl
    refine end_cons ?_; rintro _ rfl
    refine end_cons ?_; rintro _ rfl
    refine end_cons ?_; rintro _ rfl
    refine end_cons ?_; rintro _ rfl
    refine end_cons ?_; rintro _ rfl
    refine end_cons ?_; rintro _ rfl
    refine end_cons ?_; rintro _ rfl
    refine end_cons ?_; rintro _ rfl
    refine end_cons ?_; rintro _ rfl
    refine end_cons ?_; rintro _ rfl
    refine end_nil ?_
    simp only [List.setIfInBounds_toArray, List.set_cons_succ, List.set_cons_zero, Bool.not_false, Bool.not_true, Bool.true_or, Bool.or_true, Bool.false_or, Bool.or_false]
    go_wp2
    go_ret
    exact ⟨rfl, hb0.trans (hb5.mono hz0)⟩
theorem askSame1 (a b : Rq) (hfa : a.af.length ≤ 1000) (hfb : b.af.length ≤ 1000) (w : World) (ha : RowAt w a.aa (depsV a.af)) (hb : RowAt w b.aa (depsV b.af)) :
    Calls Try.prog 16 #[.agg #[.int .i64 a.kind, .int .i64 a.key, .int .i64 (a.n 1), .int .i64 (a.n 2), .int .i64 (a.n 3), .int .i64 (a.n 4), .int .i64 (a.n 5), .int .i64 (a.n 6), .int .i64 (a.n 7), .int .i64 (a.n 8), .int .i64 (a.n 9), .int .i64 (a.n 10), .slice a.aa a.af.length a.ac, .int .i64 (a.n 11), .int .i64 (a.n 12), .int .i64 (a.n 13), .int .i64 (a.n 14)], .agg #[.int .i64 b.kind, .int .i64 b.key, .int .i64 (b.n 1), .int .i64 (b.n 2), .int .i64 (b.n 3), .int .i64 (b.n 4), .int .i64 (b.n 5), .int .i64 (b.n 6), .int .i64 (b.n 7), .int .i64 (b.n 8), .int .i64 (b.n 9), .int .i64 (b.n 10), .slice b.aa b.af.length b.ac, .int .i64 (b.n 11), .int .i64 (b.n 12), .int .i64 (b.n 13), .int .i64 (b.n 14)]] w fun e w' => e = .returned (.bool (sameQ a b)) ∧ Below w.heap.size w w' := by
  rw [eqA_same]
  cases h : eqA a b
  · exact same_no a b hfa hfb w ha hb h
  · exact same_yes a b hfa hfb w ha hb h
end Go.Proofs.Ytkeboafejebanaa.W
