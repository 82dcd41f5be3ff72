/-
  Replies in memory: one in a block of its own; the program's table of what numbers are at most. Contracts of reply.four, reply.numsAreRight, reply.Right.
-/
import Derived.Test.YtbnlchbklpgejaaDoorReplySpec
import Derived.Test.YtbnlchbklpgejaaDoorAskMem
import Derived.Test.YtbnlchbklpgejaaDoorAskRd
import Derived.Deep.QuietTactic
import Derived.BigQuiet
import Derived.ChangeKeysEq
namespace Go.Proofs.YtbnlchbklpgejaaDoor.W
set_option linter.unusedVariables false
set_option linter.unusedSimpArgs false
open Go.ChangeShapes Go.WideShapes Go.ChangeAt Go.RowKit

theorem heap_up {w : World} {o x : Obj} {i : Nat} (h : w.heap[i]? = some x) : (w.alloc o).heap[i]? = some x := by
  have hl : i < w.heap.size := by
    rcases Nat.lt_or_ge i w.heap.size with h' | h'
    · exact h'
    · rw [Array.getElem?_eq_none h'] at h; cases h
  show (w.heap.push o)[i]? = some x
  rw [Array.getElem?_push, if_neg (Nat.ne_of_lt hl)]
  exact h
theorem heap_top {w : World} {o : Obj} {i : Nat} (h : i = w.heap.size) : (w.alloc o).heap[i]? = some o := by
  subst h
  show (w.heap.push o)[w.heap.size]? = some o
  simp
theorem below_setRow {B : Nat} {w W : World} (h : Below B w W) {g : Nat} (hg : B ≤ g) (cs : Array Value) : Below B w (W.setRow g cs) :=
  ⟨h.os, h.tape, h.output, by simpa using h.size, fun k hk => (setRow_other W g k cs (by omega)).trans (h.block k hk)⟩
/-- the program's own table holds what it holds from the start -/
structure Std (w : World) : Prop where
  c0 : w.cell? ⟨0, 0, none⟩ = some (.int .i64 1073741824)
  c1 : w.cell? ⟨0, 1, none⟩ = some (.int .i64 99)
  c2 : w.cell? ⟨0, 2, none⟩ = some (.int .i64 281474976710656)
  c3 : w.cell? ⟨0, 3, none⟩ = some (.int .i64 281474976710656)
  lt : 0 < w.heap.size
theorem Std.on {w w' : World} (h : Std w) (hb : Below w.heap.size w w') : Std w' :=
  ⟨(hb.cell (p := ⟨0, 0, none⟩) h.lt).trans h.c0, (hb.cell (p := ⟨0, 1, none⟩) h.lt).trans h.c1, (hb.cell (p := ⟨0, 2, none⟩) h.lt).trans h.c2, (hb.cell (p := ⟨0, 3, none⟩) h.lt).trans h.c3, Nat.lt_of_lt_of_le h.lt hb.size⟩
theorem Std.grown {w w' : World} {g : Nat} (h : Std w) (hg : w.grownBy w' (some g)) (hne : 0 < g) : Std w' := by
  have hb := hg.block 0 h.lt (fun e => by injection e with e; omega)
  exact ⟨(World.cell?_of_block (a := ⟨0, 0, none⟩) hb).trans h.c0, (World.cell?_of_block (a := ⟨0, 1, none⟩) hb).trans h.c1, (World.cell?_of_block (a := ⟨0, 2, none⟩) hb).trans h.c2, (World.cell?_of_block (a := ⟨0, 3, none⟩) hb).trans h.c3, Nat.lt_of_lt_of_le h.lt hg.size⟩

/-! a reply in a block -/
structure BoxP (w : World) (g : Nat) (r : Rp) : Prop where
  row : Row w g 25 #[.int .i64 r.key, .int .i64 r.err, .int .i64 r.job, .int .i64 r.ver, .slice r.na r.nums.length r.nc]
theorem BoxP.lt {w : World} {g : Nat} {r : Rp} (h : BoxP w g r) : g < w.heap.size := h.row.lt
theorem BoxP.on {w w' : World} {g : Nat} {r : Rp} (h : BoxP w g r) (hb : Below w.heap.size w w') : BoxP w' g r := ⟨h.row.on hb⟩
theorem BoxP.alloc {w : World} {g : Nat} {r : Rp} (h : BoxP w g r) (o : Obj) : BoxP (w.alloc o) g r := ⟨h.row.alloc o⟩
theorem BoxP.grown {w w' : World} {g : Nat} {r : Rp} {row : Option Nat} (h : BoxP w g r) (hg : w.grownBy w' row) (hr : some g ≠ row) : BoxP w' g r := ⟨h.row.grown hg hr⟩
theorem BoxP.new (w : World) (r : Rp) : BoxP (w.alloc (.cells #[.int .i64 r.key, .int .i64 r.err, .int .i64 r.job, .int .i64 r.ver, .slice r.na r.nums.length r.nc] 25)) w.heap.size r := ⟨Row.new rfl _ _⟩
theorem BoxP.thaw {w : World} {g : Nat} {r : Rp} (h : BoxP w g r) (i : Nat) : w.frozen? ⟨g, i, none⟩ = false := h.row.thaw i
theorem BoxP.c0 {w : World} {g : Nat} {r : Rp} (h : BoxP w g r) : w.cell? ⟨g, 0, none⟩ = some (.int .i64 r.key) := (h.row.cell 0).trans rfl
theorem BoxP.c1 {w : World} {g : Nat} {r : Rp} (h : BoxP w g r) : w.cell? ⟨g, 1, none⟩ = some (.int .i64 r.err) := (h.row.cell 1).trans rfl
theorem BoxP.c2 {w : World} {g : Nat} {r : Rp} (h : BoxP w g r) : w.cell? ⟨g, 2, none⟩ = some (.int .i64 r.job) := (h.row.cell 2).trans rfl
theorem BoxP.c3 {w : World} {g : Nat} {r : Rp} (h : BoxP w g r) : w.cell? ⟨g, 3, none⟩ = some (.int .i64 r.ver) := (h.row.cell 3).trans rfl
theorem BoxP.c4 {w : World} {g : Nat} {r : Rp} (h : BoxP w g r) : w.cell? ⟨g, 4, none⟩ = some (.slice r.na r.nums.length r.nc) := (h.row.cell 4).trans rfl
theorem wp_load_p {o : Oper} {a : Act} {w : World} {K : Act → World → Prop} {Q : Exit → Act → World → Prop} {g : Nat} {r : Rp} (x : Operand) (ho : o.op = .load 25 x)
    (hx : a.eval x = .pointer (some ⟨g, 0, none⟩)) (hb : BoxP w g r) (h : K (a.put o.dst (.agg #[.int .i64 r.key, .int .i64 r.err, .int .i64 r.job, .int .i64 r.ver, .slice r.na r.nums.length r.nc])) w) : o.wp Tryd.prog a w K Q :=
  wp_load_mid 25 x ho g 0 hx [.int .i64 r.key, .int .i64 r.err, .int .i64 r.job, .int .i64 r.ver, .slice r.na r.nums.length r.nc] _ (fun j v hv => by rw [Nat.zero_add, hb.row.cell]; simpa using hv) Tryd.underlying25 rfl (by kernel_rfl) h
/-- a reply is loaded whole -/
theorem wpList_load_p {ops : Array Oper} {rest : List Oper} {o : Oper} {a : Act} {w : World} {Q : Exit → Act → World → Prop} {g : Nat} {r : Rp} (hgd : o.guard = none) (x : Operand) (ho : o.op = .load 25 x)
    (hx : a.eval x = .pointer (some ⟨g, 0, none⟩)) (hb : BoxP w g r) (h : wpList Tryd.prog ops Q rest (a.put o.dst (.agg #[.int .i64 r.key, .int .i64 r.err, .int .i64 r.job, .int .i64 r.ver, .slice r.na r.nums.length r.nc])) w) : wpList Tryd.prog ops Q (o :: rest) a w :=
  wpList_load_mid hgd 25 x ho g 0 hx [.int .i64 r.key, .int .i64 r.err, .int .i64 r.job, .int .i64 r.ver, .slice r.na r.nums.length r.nc] _ (fun j v hv => by rw [Nat.zero_add, hb.row.cell]; simpa using hv) Tryd.underlying25 rfl (by kernel_rfl) h

theorem four4 (r : Rp) (w : World) : Calls Tryd.prog 17 #[.agg #[.int .i64 r.key, .int .i64 r.err, .int .i64 r.job, .int .i64 r.ver, .slice r.na r.nums.length r.nc]] w fun e w' => e = .returned (.agg #[.int .i64 r.key, .int .i64 r.err, .int .i64 r.job, .int .i64 r.ver]) ∧ Below w.heap.size w w' := by
  go_enter Tryd.func17, Tryd.ntmps17
  go_wp2_with ((refine wpList_store_row rfl 41 (.tmp 2) (.tmp 11) rfl (w.heap.size + 1) _ rfl rfl 41 #[.int .i64 0, .int .i64 0, .int .i64 0, .int .i64 0] (by repeat (first | (refine heap_top (by first | omega | (simp only [World.size_alloc]; done) | (simp only [World.size_alloc]; omega))) | refine heap_up ?_)) (by kernel_rfl) (by simp) (by simp [Value.oneCell']) ?_; generalize hw9 : World.setRow _ _ _ = w9))
  have hb9 : Below w.heap.size w w9 := by rw [← hw9]; exact below_setRow ((by repeat' (first | exact Below.refl _ _ | assumption | exact And.left (by assumption) | refine Below.drew ?_ | refine below_drewN ?_ _ | refine Below.setCell ?_ (by first | (simp; done) | (simp; omega) | omega) _ | refine Below.alloc ?_ (by first | (simp; done) | (simp; omega) | omega) _ | refine after (by assumption) (by first | (simp; done) | (simp; omega) | omega) ?_))) (by omega) _
  have hg9 : w9.heap[w.heap.size + 1]? = some (.cells #[.int .i64 r.key, .int .i64 r.err, .int .i64 r.job, .int .i64 r.ver] 41 (0, 0)) := by rw [← hw9]; exact setRow_heap _ _ _ _ _ _ (by repeat (first | (refine heap_top (by first | omega | (simp only [World.size_alloc]; done) | (simp only [World.size_alloc]; omega))) | refine heap_up ?_))
  clear hw9
  go_wp2
  refine bodyPost_ret (results_cell_row (by simp [results, Tryd.results17]; rfl) _ _ (w.heap.size + 1) _ _ _ _ rfl hg9 Tryd.underlying41 rfl (by kernel_rfl)) rfl ⟨rfl, hb9⟩

theorem okL_take_last {xs : List Int} (g : okL (xs.take xs.length) = true) : okL xs = true := by rwa [List.take_length] at g
theorem okL_snoc2 (xs : List Int) (k : Nat) (hk : k < xs.length) : okL (xs.take (k + 1)) = (okL (xs.take k) && okN xs[k]) := by
  unfold okL
  rw [take_snoc xs k hk, List.all_append]
  simp only [List.all_cons, List.all_nil, Bool.and_true]
theorem okL_bad {xs : List Int} {k : Nat} (hk : k < xs.length) (h : okN xs[k] = false) : okL xs = false := by
  refine okL_no k hk fun x => ?_
  rw [(okN_iff _).2 x] at h
  cases h
theorem numsRight (a : Option Addr) (c : Nat) (l : List Int) (w : World) (ha : RowAt w a (vals l)) :
    Calls Tryd.prog 19 #[.slice a l.length c] w fun e w' => e = .returned (.bool (manyB l)) ∧ w' = w := by
  have HA := Lib.hid ha
  by_cases hl : l.length ≤ 64
  · have d0 : decide ((64 : Int) < (l.length : Int)) = false := decide_eq_false (by omega)
    have HD : Hid (manyB l = okL l) := Lib.hid (by unfold manyB; rw [decide_eq_true hl, Bool.true_and])
    clear ha
    rw [HD.out]
    go_enter Tryd.func19, Tryd.ntmps19
    go_wp2_with fail
    go_loop [10] (fun i => ∃ k : Nat, k ≤ l.length ∧ i = .int .i64 (k : Int) ∧ Hid (okL (l.take k) = true)) (fun i => l.length - (intOf i).toNat)
    case atStart => exact ⟨0, Nat.zero_le _, rfl, Lib.hid rfl⟩
    case round =>
      obtain ⟨k, hk, rfl, HK⟩ := hrel
      by_cases hlt : k < l.length
      · obtain ⟨b, off, ha, hbw, hcs⟩ := HA.out.row (by rw [vals_len]; omega)
        have hc := hcs k _ (vals_at l k hlt)
        have hsn := okL_snoc2 l k hlt
        have HB := Lib.hid (fun h => okL_bad (xs := l) (k := k) hlt h)
        obtain ⟨x, hxe⟩ : ∃ x, x = l[k] := ⟨_, rfl⟩
        rw [← hxe] at hc hsn HB
        have Ha := Lib.hid ha
        clear ha hcs hxe
        obtain rfl := Ha.out
        by_cases h0 : x < 0
        · have HF : Hid (okL l = false) := Lib.hid (HB.out (decide_eq_false (by omega)))
          clear hsn HB
          go_wp2_with fail
          go_ret
          exact ⟨by rw [HF.out]; rfl, rfl⟩
        · by_cases h1 : x > 281474976710656
          · have HF : Hid (okL l = false) := Lib.hid (HB.out (decide_eq_false (by omega)))
            clear hsn HB
            go_wp2_with fail
            go_ret
            exact ⟨by rw [HF.out]; rfl, rfl⟩
          · have HK2 : Hid (okL (l.take (k + 1)) = true) := Lib.hid (by rw [hsn, HK.out]; simp [okN]; omega)
            clear hsn HB
            go_wp2_with fail
            go_round
            case rel => exact ⟨k + 1, by omega, by go_num, HK2⟩
            case measure => simp [intOf]; omega
      · have hkk : k = l.length := by omega
        subst hkk
        have HF : Hid (okL l = true) := Lib.hid (okL_take_last HK.out)
        go_wp2_with fail
        go_ret
        exact ⟨by rw [HF.out]; rfl, rfl⟩
  · have d0 : decide ((64 : Int) < (l.length : Int)) = true := decide_eq_true (by omega)
    have HD : Hid (manyB l = false) := Lib.hid (by unfold manyB; rw [decide_eq_false hl, Bool.false_and])
    clear ha
    rw [HD.out]
    clear hl
    go_enter Tryd.func19, Tryd.ntmps19
    go_wp2_with fail
    go_ret
    exact ⟨rfl, rfl⟩
end Go.Proofs.YtbnlchbklpgejaaDoor.W
