/-
  Steps in memory: a list of them, wherever it lies; one of the call's own; an append of elements of several cells.
-/
import Derived.Test.YtcnpppkndcgmpaaStTimes
import Derived.Test.YtcnpppkndcgmpaaBytes
import Derived.Test.YtcnpppkndcgmpaaFrameRows
import Derived.Test.YtcnpppkndcgmpaaVec
namespace Go.Proofs.Ytcnpppkndcgmpaa.W
set_option linter.unusedVariables false
set_option linter.unusedSimpArgs false
open Go.ChangeShapes Go.WideShapes Go.ChangeAt Go.RowKit

def stV (s : St) : List Value := [.int .i64 s.at_, .int .i64 s.free.cpu, .int .i64 s.free.mem, .int .i64 s.free.gpu, .int .i64 s.free.lic]
def stsV (l : List St) : List Value := l.flatMap stV
theorem stsV_len (l : List St) : (stsV l).length = l.length * 5 := flat_len (n := 5) (fun _ => rfl) l
theorem stsV_app (a b : List St) : stsV (a ++ b) = stsV a ++ stsV b := by simp [stsV]
theorem stsV_one (s : St) : stsV [s] = stV s := by simp [stsV]
theorem stsV_nil : stsV [] = [] := rfl
theorem stsV_cells (l : List St) : ∀ u ∈ stsV l, u.oneCell' = true := by
  intro u hu
  obtain ⟨s, _, hs⟩ := List.mem_flatMap.1 hu
  simp only [stV, List.mem_cons, List.not_mem_nil, or_false] at hs
  rcases hs with rfl | rfl | rfl | rfl | rfl <;> rfl
theorem stsV_drop (l : List St) (k : Nat) : stsV (l.drop k) = (stsV l).drop (k * 5) := by
  induction k generalizing l with
  | zero => simp
  | succ k ih =>
    cases l with
    | nil => simp [stsV]
    | cons s r =>
      have e : stsV (s :: r) = stV s ++ stsV r := rfl
      rw [List.drop_succ_cons, ih, e, show (k + 1) * 5 = (stV s).length + k * 5 by simp [stV]; omega, List.drop_append]
      simp
/-- steps as an argument: where they lie, and what it has room for -/
structure StAt (w : World) (a : Option Addr) (cap : Nat) (l : List St) : Prop where
  row : RowAt w a (stsV l)
  le : l.length ≤ cap
  nil : a = none → cap = 0
theorem StAt.later {w w' : World} {a : Option Addr} {cap : Nat} {l : List St} (h : StAt w a cap l) (hb : Below w.heap.size w w') : StAt w' a cap l := ⟨h.row.later hb, h.le, h.nil⟩
/-- a step's cells -/
theorem RowAt.step {w : World} {a : Option Addr} {l : List St} (h : RowAt w a (stsV l)) {k : Nat} (hk : k < l.length) : ∃ b off, a = some ⟨b, off, none⟩ ∧ b < w.heap.size ∧
    w.cell? ⟨b, off + k * 5, none⟩ = some (.int .i64 l[k].at_) ∧ w.cell? ⟨b, off + k * 5 + 1, none⟩ = some (.int .i64 l[k].free.cpu) ∧ w.cell? ⟨b, off + k * 5 + 2, none⟩ = some (.int .i64 l[k].free.mem) ∧
    w.cell? ⟨b, off + k * 5 + 3, none⟩ = some (.int .i64 l[k].free.gpu) ∧ w.cell? ⟨b, off + k * 5 + 4, none⟩ = some (.int .i64 l[k].free.lic) := by
  obtain ⟨b, off, e, hl, hc⟩ := h.row (by rw [stsV_len]; omega)
  have at' : ∀ j, j < 5 → ∀ u, (stV l[k])[j]? = some u → w.cell? ⟨b, off + (k * 5 + j), none⟩ = some u := fun j hj u hu => hc _ u (by rw [stsV, flat_at (n := 5) (fun _ => rfl) _ _ _ hk hj]; exact hu)
  exact ⟨b, off, e, hl, at' 0 (by omega) _ rfl, by rw [Nat.add_assoc]; exact at' 1 (by omega) _ rfl, by rw [Nat.add_assoc]; exact at' 2 (by omega) _ rfl, by rw [Nat.add_assoc]; exact at' 3 (by omega) _ rfl, by rw [Nat.add_assoc]; exact at' 4 (by omega) _ rfl⟩
/-- the first one's cells -/
theorem RowAt.first {w : World} {a : Option Addr} {l : List St} (h : RowAt w a (stsV l)) (hk : 0 < l.length) : ∃ b off, a = some ⟨b, off, none⟩ ∧ b < w.heap.size ∧
    w.cell? ⟨b, off, none⟩ = some (.int .i64 l[0].at_) ∧ w.cell? ⟨b, off + 1, none⟩ = some (.int .i64 l[0].free.cpu) ∧ w.cell? ⟨b, off + 2, none⟩ = some (.int .i64 l[0].free.mem) ∧
    w.cell? ⟨b, off + 3, none⟩ = some (.int .i64 l[0].free.gpu) ∧ w.cell? ⟨b, off + 4, none⟩ = some (.int .i64 l[0].free.lic) := by
  obtain ⟨b, off, e, hl, h0, h1, h2, h3, h4⟩ := h.step hk
  rw [Nat.zero_mul, Nat.add_zero] at h0 h1 h2 h3 h4
  exact ⟨b, off, e, hl, h0, h1, h2, h3, h4⟩
/-- one of the call's own, whatever its elements' cells -/
theorem own_shape {w : World} {base : Nat} {e : TypeId} {size n : Nat} {v : Value} {xs : List Value} (h : w.ownsRow base e size v n xs) :
    ∃ a cap, v = .slice a n cap ∧ n ≤ cap ∧ RowAt w a xs ∧ (a = none → cap = 0) ∧ (a = none ∨ ∃ g, a = some ⟨g, 0, none⟩ ∧ base ≤ g ∧ g < w.heap.size) := by
  have hc := fun g => h.cells (g := g)
  have hlt := h.lt
  obtain ⟨hl, h | ⟨g, cap, cur, rfl, hg, hh, hn, _⟩⟩ := h
  · obtain ⟨rfl, rfl⟩ := h
    have hx : xs = [] := by simpa using hl
    exact ⟨none, 0, rfl, Nat.le_refl _, .inl hx, fun _ => rfl, .inl rfl⟩
  · refine ⟨_, cap, rfl, hn, .inr ⟨g, 0, rfl, (hlt g rfl).2, fun i u hu => ?_⟩, fun h => (by cases h), .inr ⟨g, rfl, hg, (hlt g rfl).2⟩⟩
    have := hc g rfl i u hu
    rwa [add_plain] at this
theorem own_st {w : World} {base : Nat} {e : TypeId} {v : Value} {l : List St} (h : w.ownsRow base e 5 v l.length (stsV l)) : ∃ a cap, v = .slice a l.length cap ∧ StAt w a cap l := by
  obtain ⟨a, cap, e, h1, h2, h3, _⟩ := own_shape h
  exact ⟨a, cap, e, h2, h1, h3⟩
/-- an append of elements of several cells, wherever they stand -/
theorem pushBig {P : Program} {ops : Array Oper} {rest : List Oper} {o : Oper} {a : Act} {Q : Exit → Act → World → Prop} (s x : Operand) (t : TypeId)
    (e : TypeId) (size bytes : Nat) (z : Value) (i : TypeInfo) (ht : P.underlying t = some (.slice e)) (hi : P.info? e = some i) (hz : i.zero = some z) (hsize : i.size = size) (hby : i.bytes = bytes) (hzs : z.cells.size = size) (hsz : 0 < size) (hb0 : 0 < bytes)
    (base B n m c : Nat) (xs news : List Value) (v : Value) (d : Addr) (w0 wr : World) (hgd : o.guard = none)
    (ho : o.op = .call { callee := .builtin .append, args := #[s, x], argTypes := #[t, t] })
    (hs : a.eval s = v) (hx : a.eval x = .slice (some d) m c) (hm : news.length = m * size)
    (hown : wr.ownsRow base e size v n xs) (hrow : RowAt wr (some d) news) (hbel : Below B w0 wr) (hB : B ≤ base) (hbase : base ≤ wr.heap.size)
    (h1 : ∀ u ∈ news, u.oneCell' = true) (hn : (n + m) * bytes ≤ 140737488355328)
    (h : ∀ v' w', w'.ownsRow base e size v' (n + m) (xs ++ news) → Below B w0 w' → (v' = .slice none 0 0 ↔ v = .slice none 0 0 ∧ m = 0) → wpList P ops Q rest (a.put o.dst v') w') :
    wpList P ops Q (o :: rest) a wr := by
  have hw := hbel.size
  refine wpList_append_own _ hgd s x t ho base e i z size bytes ht hi hz hsize hby hzs hsz v n xs hs hown d m c news hx hm ?_ h1 ?_ hn hbase ?_
  · intro j y hj
    rcases hrow with rfl | ⟨b, off, e, hl, hc⟩
    · simp at hj
    · injection e with e
      subst e
      rw [add_plain]
      exact hc j y hj
  · have : n + m ≤ (n + m) * bytes := Nat.le_mul_of_pos_right _ hb0
    unfold maxLen; omega
  · intro v' w' o' g' hnil
    refine h v' w' o' (hbel.grown g' (by omega) ?_) hnil
    intro k hk
    exact Nat.le_trans hB (hown.lt k hk).1
/-- one element, just written out -/
theorem pushOne {P : Program} {ops : Array Oper} {rest : List Oper} {o : Oper} {a : Act} {Q : Exit → Act → World → Prop} (s x : Operand) (t : TypeId)
    (e : TypeId) (size bytes : Nat) (z : Value) (i : TypeInfo) (ht : P.underlying t = some (.slice e)) (hi : P.info? e = some i) (hz : i.zero = some z) (hsize : i.size = size) (hby : i.bytes = bytes) (hzs : z.cells.size = size) (hsz : 0 < size) (hb0 : 0 < bytes)
    (base B n : Nat) (xs : List Value) (us : Array Value) (v : Value) (ty : TypeId) (w0 wr : World) (hgd : o.guard = none)
    (ho : o.op = .call { callee := .builtin .append, args := #[s, x], argTypes := #[t, t] })
    (hs : a.eval s = v) (hx : a.eval x = .slice (some ⟨wr.heap.size, 0, none⟩) 1 1) (hm : us.size = 1 * size)
    (hown : wr.ownsRow base e size v n xs) (hbel : Below B w0 wr) (hB : B ≤ base) (hbase : base ≤ wr.heap.size)
    (h1 : ∀ u ∈ us.toList, u.oneCell' = true) (hn : (n + 1) * bytes ≤ 140737488355328)
    (h : ∀ v' w', w'.ownsRow base e size v' (n + 1) (xs ++ us.toList) → Below B w0 w' → wpList P ops Q rest (a.put o.dst v') w') :
    wpList P ops Q (o :: rest) a (wr.alloc (.cells us ty)) := by
  have hw := hbel.size
  refine pushBig s x t e size bytes z i ht hi hz hsize hby hzs hsz hb0 base B n 1 1 xs us.toList v ⟨wr.heap.size, 0, none⟩ w0 _ hgd ho hs hx (by simpa using hm) (hown.alloc _) (row_new _ _ _) (hbel.alloc (by omega) _) hB (by simp; omega) h1 hn ?_
  intro v' w' h1 h2 _
  exact h v' w' h1 h2
theorem infoSt : (Try.prog.info? 34).map (fun i => (i.zero, i.size, i.bytes)) = some (some (.agg #[.int .i64 0, .int .i64 0, .int .i64 0, .int .i64 0, .int .i64 0]), 5, 40) := by kernel_rfl
theorem take_app {α : Type} (l : List α) (k : Nat) (h : k < l.length) : l.take (k + 1) = l.take k ++ [l[k]] := by rw [List.take_succ_eq_append_getElem h]
theorem drop_at {α : Type} (l : List α) (k : Nat) (h : k < l.length) : l.drop k = l[k] :: l.drop (k + 1) := List.drop_eq_getElem_cons h
end Go.Proofs.Ytcnpppkndcgmpaa.W
