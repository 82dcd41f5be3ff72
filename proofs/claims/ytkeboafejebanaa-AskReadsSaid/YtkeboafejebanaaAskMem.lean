/-
  Requests in memory: one in a block of its own; an After, wherever it lies; appends of what was just written out.
-/
import Derived.Test.YtkeboafejebanaaAskSpec
import Derived.Test.YtkeboafejebanaaCodecRead
import Derived.Test.YtkeboafejebanaaMono
import Derived.Deep.MidRow
import Derived.Deep.RegionLaw
namespace Go.Proofs.Ytkeboafejebanaa.W
set_option linter.unusedVariables false
set_option linter.unusedSimpArgs false
open Go.ChangeShapes Go.WideShapes Go.ChangeAt Go.RowKit

def depV (d : Int × Bool) : List Value := [.int .i64 d.1, .bool d.2]
def depsV (af : List (Int × Bool)) : List Value := af.flatMap depV
theorem depsV_len (af : List (Int × Bool)) : (depsV af).length = af.length * 2 := by
  unfold depsV
  induction af with
  | nil => rfl
  | cons d r ih => rw [List.flatMap_cons, List.length_append, ih, List.length_cons]; simp [depV]; omega
theorem depsV_at : ∀ (af : List (Int × Bool)) (k : Nat) (h : k < af.length), (depsV af)[k * 2]? = some (.int .i64 (af[k]).1) ∧ (depsV af)[k * 2 + 1]? = some (.bool (af[k]).2)
  | d :: r, 0, _ => ⟨rfl, rfl⟩
  | d :: r, k + 1, h => by
    have ih := depsV_at r k (by simpa using h)
    have e1 : (k + 1) * 2 = k * 2 + 2 := by omega
    rw [e1]
    exact ih
theorem depsV_snoc (af : List (Int × Bool)) (d : Int × Bool) : depsV (af ++ [d]) = depsV af ++ [.int .i64 d.1, .bool d.2] := by simp [depsV, depV]
/-- one of an After -/
theorem dep_at {w : World} {a : Option Addr} {af : List (Int × Bool)} (h : RowAt w a (depsV af)) {k : Nat} (hk : k < af.length) :
    ∃ b off, a = some ⟨b, off, none⟩ ∧ b < w.heap.size ∧ w.cell? ⟨b, off + k * 2, none⟩ = some (.int .i64 (af[k]).1) ∧ w.cell? ⟨b, off + k * 2 + 1, none⟩ = some (.bool (af[k]).2) := by
  obtain ⟨b, off, e, hl, hc⟩ := h.row (by rw [depsV_len]; omega)
  have := depsV_at af k hk
  exact ⟨b, off, e, hl, hc _ _ this.1, by have h2 := hc _ _ this.2; rwa [← Nat.add_assoc] at h2⟩
def ptrsV (g : Nat) (fs : List Nat) : List Value := fs.map fun i => .pointer (some ⟨g, cix i, none⟩)
theorem ptrs_at (g : Nat) (fs : List Nat) (k : Nat) (h : k < fs.length) : (ptrsV g fs)[k]? = some (.pointer (some ⟨g, cix fs[k], none⟩)) := by simp [ptrsV, h]
theorem ptrs_len (g : Nat) (fs : List Nat) : (ptrsV g fs).length = fs.length := by simp [ptrsV]

theorem grown_refl (w : World) (row : Option Nat) : w.grownBy w row := ⟨rfl, rfl, rfl, Nat.le_refl _, fun _ _ _ => rfl⟩
/-! a request in a block -/
structure BoxQ (w : World) (g : Nat) (q : Rq) : Prop where
  row : Row w g 26 #[.int .i64 q.kind, .int .i64 q.key, .int .i64 (q.n 1), .int .i64 (q.n 2), .int .i64 (q.n 3), .int .i64 (q.n 4), .int .i64 (q.n 5), .int .i64 (q.n 6), .int .i64 (q.n 7), .int .i64 (q.n 8), .int .i64 (q.n 9), .int .i64 (q.n 10), .slice q.aa q.af.length q.ac, .int .i64 (q.n 11), .int .i64 (q.n 12), .int .i64 (q.n 13), .int .i64 (q.n 14)]
theorem BoxQ.lt {w : World} {g : Nat} {q : Rq} (h : BoxQ w g q) : g < w.heap.size := h.row.lt
theorem BoxQ.on {w w' : World} {g : Nat} {q : Rq} (h : BoxQ w g q) (hb : Below w.heap.size w w') : BoxQ w' g q := ⟨h.row.on hb⟩
theorem BoxQ.alloc {w : World} {g : Nat} {q : Rq} (h : BoxQ w g q) (o : Obj) : BoxQ (w.alloc o) g q := ⟨h.row.alloc o⟩
theorem BoxQ.grown {w w' : World} {g : Nat} {q : Rq} {row : Option Nat} (h : BoxQ w g q) (hg : w.grownBy w' row) (hr : some g ≠ row) : BoxQ w' g q := ⟨h.row.grown hg hr⟩
theorem BoxQ.new (w : World) (q : Rq) : BoxQ (w.alloc (.cells #[.int .i64 q.kind, .int .i64 q.key, .int .i64 (q.n 1), .int .i64 (q.n 2), .int .i64 (q.n 3), .int .i64 (q.n 4), .int .i64 (q.n 5), .int .i64 (q.n 6), .int .i64 (q.n 7), .int .i64 (q.n 8), .int .i64 (q.n 9), .int .i64 (q.n 10), .slice q.aa q.af.length q.ac, .int .i64 (q.n 11), .int .i64 (q.n 12), .int .i64 (q.n 13), .int .i64 (q.n 14)] 26)) w.heap.size q := ⟨Row.new rfl _ _⟩
theorem BoxQ.thaw {w : World} {g : Nat} {q : Rq} (h : BoxQ w g q) (i : Nat) : w.frozen? ⟨g, i, none⟩ = false := h.row.thaw i
theorem BoxQ.c0 {w : World} {g : Nat} {q : Rq} (h : BoxQ w g q) : w.cell? ⟨g, 0, none⟩ = some (.int .i64 q.kind) := (h.row.cell 0).trans rfl
theorem BoxQ.c1 {w : World} {g : Nat} {q : Rq} (h : BoxQ w g q) : w.cell? ⟨g, 1, none⟩ = some (.int .i64 q.key) := (h.row.cell 1).trans rfl
theorem BoxQ.c2 {w : World} {g : Nat} {q : Rq} (h : BoxQ w g q) : w.cell? ⟨g, 2, none⟩ = some (.int .i64 (q.n 1)) := (h.row.cell 2).trans rfl
theorem BoxQ.c3 {w : World} {g : Nat} {q : Rq} (h : BoxQ w g q) : w.cell? ⟨g, 3, none⟩ = some (.int .i64 (q.n 2)) := (h.row.cell 3).trans rfl
theorem BoxQ.c4 {w : World} {g : Nat} {q : Rq} (h : BoxQ w g q) : w.cell? ⟨g, 4, none⟩ = some (.int .i64 (q.n 3)) := (h.row.cell 4).trans rfl
theorem BoxQ.c5 {w : World} {g : Nat} {q : Rq} (h : BoxQ w g q) : w.cell? ⟨g, 5, none⟩ = some (.int .i64 (q.n 4)) := (h.row.cell 5).trans rfl
theorem BoxQ.c6 {w : World} {g : Nat} {q : Rq} (h : BoxQ w g q) : w.cell? ⟨g, 6, none⟩ = some (.int .i64 (q.n 5)) := (h.row.cell 6).trans rfl
theorem BoxQ.c7 {w : World} {g : Nat} {q : Rq} (h : BoxQ w g q) : w.cell? ⟨g, 7, none⟩ = some (.int .i64 (q.n 6)) := (h.row.cell 7).trans rfl
theorem BoxQ.c8 {w : World} {g : Nat} {q : Rq} (h : BoxQ w g q) : w.cell? ⟨g, 8, none⟩ = some (.int .i64 (q.n 7)) := (h.row.cell 8).trans rfl
theorem BoxQ.c9 {w : World} {g : Nat} {q : Rq} (h : BoxQ w g q) : w.cell? ⟨g, 9, none⟩ = some (.int .i64 (q.n 8)) := (h.row.cell 9).trans rfl
theorem BoxQ.c10 {w : World} {g : Nat} {q : Rq} (h : BoxQ w g q) : w.cell? ⟨g, 10, none⟩ = some (.int .i64 (q.n 9)) := (h.row.cell 10).trans rfl
theorem BoxQ.c11 {w : World} {g : Nat} {q : Rq} (h : BoxQ w g q) : w.cell? ⟨g, 11, none⟩ = some (.int .i64 (q.n 10)) := (h.row.cell 11).trans rfl
theorem BoxQ.c12 {w : World} {g : Nat} {q : Rq} (h : BoxQ w g q) : w.cell? ⟨g, 12, none⟩ = some (.slice q.aa q.af.length q.ac) := (h.row.cell 12).trans rfl
theorem BoxQ.c13 {w : World} {g : Nat} {q : Rq} (h : BoxQ w g q) : w.cell? ⟨g, 13, none⟩ = some (.int .i64 (q.n 11)) := (h.row.cell 13).trans rfl
theorem BoxQ.c14 {w : World} {g : Nat} {q : Rq} (h : BoxQ w g q) : w.cell? ⟨g, 14, none⟩ = some (.int .i64 (q.n 12)) := (h.row.cell 14).trans rfl
theorem BoxQ.c15 {w : World} {g : Nat} {q : Rq} (h : BoxQ w g q) : w.cell? ⟨g, 15, none⟩ = some (.int .i64 (q.n 13)) := (h.row.cell 15).trans rfl
theorem BoxQ.c16 {w : World} {g : Nat} {q : Rq} (h : BoxQ w g q) : w.cell? ⟨g, 16, none⟩ = some (.int .i64 (q.n 14)) := (h.row.cell 16).trans rfl
/-- one of its numbers -/
theorem BoxQ.num {w : World} {g : Nat} {q : Rq} (h : BoxQ w g q) {i : Nat} (h1 : 1 ≤ i) (h2 : i ≤ 14) : w.cell? ⟨g, cix i, none⟩ = some (.int .i64 (q.n i)) := by
  match i, h1, h2 with
  | 1, _, _ => exact h.c2
  | 2, _, _ => exact h.c3
  | 3, _, _ => exact h.c4
  | 4, _, _ => exact h.c5
  | 5, _, _ => exact h.c6
  | 6, _, _ => exact h.c7
  | 7, _, _ => exact h.c8
  | 8, _, _ => exact h.c9
  | 9, _, _ => exact h.c10
  | 10, _, _ => exact h.c11
  | 11, _, _ => exact h.c13
  | 12, _, _ => exact h.c14
  | 13, _, _ => exact h.c15
  | 14, _, _ => exact h.c16
theorem Row.as {w : World} {g : Nat} {t : TypeId} {cs cs' : Array Value} (h : Row w g t cs) (e : cs = cs') : Row w g t cs' := e ▸ h
/-- a store to one of its numbers -/
theorem BoxQ.put {w : World} {g : Nat} {q : Rq} (h : BoxQ w g q) (hl : q.l.length = 15) {i : Nat} (h1 : 1 ≤ i) (h2 : i ≤ 14) (v : Int) : BoxQ (w.setCell ⟨g, cix i, none⟩ (.int .i64 v)) g (q.set i v) := by
  refine ⟨(h.row.put (cix i) (.int .i64 v)).as ?_⟩
  have hn := fun j => set_n q i j v (by omega)
  have e1 : (q.set i v).kind = q.kind := rfl
  have e2 : (q.set i v).key = q.key := rfl
  have e3 : (q.set i v).aa = q.aa := rfl
  have e4 : (q.set i v).ac = q.ac := rfl
  have e5 : (q.set i v).af = q.af := rfl
  rw [e1, e2, e3, e4, e5]
  simp only [hn]
  match i, h1, h2 with
  | 1, _, _ | 2, _, _ | 3, _, _ | 4, _, _ | 5, _, _ | 6, _, _ | 7, _, _ | 8, _, _ | 9, _, _ | 10, _, _ | 11, _, _ | 12, _, _ | 13, _, _ | 14, _, _ => rfl
theorem wp_load_box {o : Oper} {a : Act} {w : World} {K : Act → World → Prop} {Q : Exit → Act → World → Prop} {g : Nat} {q : Rq} (x : Operand) (ho : o.op = .load 26 x)
    (hx : a.eval x = .pointer (some ⟨g, 0, none⟩)) (hb : BoxQ w g q) (h : K (a.put o.dst (.agg #[.int .i64 q.kind, .int .i64 q.key, .int .i64 (q.n 1), .int .i64 (q.n 2), .int .i64 (q.n 3), .int .i64 (q.n 4), .int .i64 (q.n 5), .int .i64 (q.n 6), .int .i64 (q.n 7), .int .i64 (q.n 8), .int .i64 (q.n 9), .int .i64 (q.n 10), .slice q.aa q.af.length q.ac, .int .i64 (q.n 11), .int .i64 (q.n 12), .int .i64 (q.n 13), .int .i64 (q.n 14)])) w) : o.wp Try.prog a w K Q :=
  wp_load_mid 26 x ho g 0 hx [.int .i64 q.kind, .int .i64 q.key, .int .i64 (q.n 1), .int .i64 (q.n 2), .int .i64 (q.n 3), .int .i64 (q.n 4), .int .i64 (q.n 5), .int .i64 (q.n 6), .int .i64 (q.n 7), .int .i64 (q.n 8), .int .i64 (q.n 9), .int .i64 (q.n 10), .slice q.aa q.af.length q.ac, .int .i64 (q.n 11), .int .i64 (q.n 12), .int .i64 (q.n 13), .int .i64 (q.n 14)] _ (fun j v hv => by rw [Nat.zero_add, hb.row.cell]; simpa using hv) Try.underlying26 rfl (by kernel_rfl) h
/-- a request is loaded whole -/
theorem wpList_load_q {ops : Array Oper} {rest : List Oper} {o : Oper} {a : Act} {w : World} {Q : Exit → Act → World → Prop} {g : Nat} {q : Rq} (hgd : o.guard = none) (x : Operand) (ho : o.op = .load 26 x)
    (hx : a.eval x = .pointer (some ⟨g, 0, none⟩)) (hb : BoxQ w g q) (h : wpList Try.prog ops Q rest (a.put o.dst (.agg #[.int .i64 q.kind, .int .i64 q.key, .int .i64 (q.n 1), .int .i64 (q.n 2), .int .i64 (q.n 3), .int .i64 (q.n 4), .int .i64 (q.n 5), .int .i64 (q.n 6), .int .i64 (q.n 7), .int .i64 (q.n 8), .int .i64 (q.n 9), .int .i64 (q.n 10), .slice q.aa q.af.length q.ac, .int .i64 (q.n 11), .int .i64 (q.n 12), .int .i64 (q.n 13), .int .i64 (q.n 14)])) w) : wpList Try.prog ops Q (o :: rest) a w :=
  wpList_load_mid hgd 26 x ho g 0 hx [.int .i64 q.kind, .int .i64 q.key, .int .i64 (q.n 1), .int .i64 (q.n 2), .int .i64 (q.n 3), .int .i64 (q.n 4), .int .i64 (q.n 5), .int .i64 (q.n 6), .int .i64 (q.n 7), .int .i64 (q.n 8), .int .i64 (q.n 9), .int .i64 (q.n 10), .slice q.aa q.af.length q.ac, .int .i64 (q.n 11), .int .i64 (q.n 12), .int .i64 (q.n 13), .int .i64 (q.n 14)] _ (fun j v hv => by rw [Nat.zero_add, hb.row.cell]; simpa using hv) Try.underlying26 rfl (by kernel_rfl) h

/-! an append of what was just written out, to a slice of the call's own -/
theorem step_append_new {P : Program} {ops : Array Oper} {o : Oper} {a : Act} {K : Act → World → Prop} {Q : Exit → Act → World → Prop} {E : Prop} (s x : Operand) (t : TypeId)
    (e : TypeId) (bytes : Nat) (z : Value) (i : TypeInfo) (ht : P.underlying t = some (.slice e)) (hi : P.info? e = some i) (hz : i.zero = some z) (hsize : i.size = 1) (hby : i.bytes = bytes) (hzs : z.cells.size = 1) (hb0 : 0 < bytes)
    (base B n m : Nat) (xs : List Value) (us : Array Value) (v : Value) (ty : TypeId) (w0 wr : World) (hgd : o.guard = none)
    (ho : o.op = .call { callee := .builtin .append, args := #[s, x], argTypes := #[t, t] })
    (hs : a.eval s = v) (hx : a.eval x = .slice (some ⟨wr.heap.size, 0, none⟩) m m) (hm : us.size = m)
    (hown : wr.ownsRow base e 1 v n xs) (hbel : Below B w0 wr) (hB : B ≤ base) (hbase : base ≤ wr.heap.size)
    (h1 : ∀ u ∈ us.toList, u.oneCell' = true) (hn : (n + m) * bytes ≤ 140737488355328)
    (h : ∀ v' w', w'.ownsRow base e 1 v' (n + m) (xs ++ us.toList) → Below B w0 w' → (wr.alloc (.cells us ty)).grownBy w' v.ownBlock → K (a.put o.dst v') w') :
    if Region.wanted o (yielded ops a.tmps) = true then Oper.wp P o a (wr.alloc (.cells us ty)) K Q else E := by
  have hw : Region.wanted o (yielded ops a.tmps) = true := by simp [Region.wanted, hgd]
  rw [if_pos hw]
  subst hm
  have hwb := hbel.size
  refine wp_append_own _ s x t ho base e i z 1 bytes ht hi hz hsize hby hzs (by decide) v n xs hs (hown.alloc _) ⟨wr.heap.size, 0, none⟩ us.size us.size us.toList hx (by simp) ?_ h1 ?_ hn ?_ ?_
  · intro j y hj
    rw [add_plain, Nat.zero_add, cell_of_row _ _ _ us ty (0, 0) (heap_alloc_new wr _)]
    simpa using hj
  · have : n + us.size ≤ (n + us.size) * bytes := Nat.le_mul_of_pos_right _ hb0
    unfold maxLen; omega
  · simp; omega
  · intro v' w' o' g' _
    refine h v' w' o' ((hbel.alloc (by omega) _).grown g' (by simp; omega) ?_) g'
    intro k hk
    exact Nat.le_trans hB (hown.lt k hk).1
theorem pushL {P : Program} {ops : Array Oper} {rest : List Oper} {o : Oper} {a : Act} {Q : Exit → Act → World → Prop} (s x : Operand) (t : TypeId)
    (e : TypeId) (bytes : Nat) (z : Value) (i : TypeInfo) (ht : P.underlying t = some (.slice e)) (hi : P.info? e = some i) (hz : i.zero = some z) (hsize : i.size = 1) (hby : i.bytes = bytes) (hzs : z.cells.size = 1) (hb0 : 0 < bytes)
    (base B n m : Nat) (xs : List Value) (us : Array Value) (v : Value) (ty : TypeId) (w0 wr : World) (hgd : o.guard = none)
    (ho : o.op = .call { callee := .builtin .append, args := #[s, x], argTypes := #[t, t] })
    (hs : a.eval s = v) (hx : a.eval x = .slice (some ⟨wr.heap.size, 0, none⟩) m m) (hm : us.size = m)
    (hown : wr.ownsRow base e 1 v n xs) (hbel : Below B w0 wr) (hB : B ≤ base) (hbase : base ≤ wr.heap.size)
    (h1 : ∀ u ∈ us.toList, u.oneCell' = true) (hn : (n + m) * bytes ≤ 140737488355328)
    (h : ∀ v' w', w'.ownsRow base e 1 v' (n + m) (xs ++ us.toList) → Below B w0 w' → (wr.alloc (.cells us ty)).grownBy w' v.ownBlock → wpList P ops Q rest (a.put o.dst v') w') :
    wpList P ops Q (o :: rest) a (wr.alloc (.cells us ty)) :=
  wpList_plain hgd fun K hK => by
    have := step_append_new (P := P) (ops := ops) (K := K) (Q := Q) (E := True) s x t e bytes z i ht hi hz hsize hby hzs hb0 base B n m xs us v ty w0 wr hgd ho hs hx hm hown hbel hB hbase h1 hn (fun v' w' a1 a2 a3 => hK _ _ (h v' w' a1 a2 a3))
    rw [if_pos (by simp [Region.wanted, hgd])] at this
    exact this
theorem infoP : (Try.prog.info? 46).map (fun i => (i.zero, i.size, i.bytes)) = some (some (.pointer none), 1, 8) := by kernel_rfl
theorem infoI : (Try.prog.info? 3).map (fun i => (i.zero, i.size, i.bytes)) = some (some (.int .i64 0), 1, 8) := by kernel_rfl
end Go.Proofs.Ytkeboafejebanaa.W
