/-
  Bookings in memory: lists of them, wherever they lie.
-/
import Derived.Test.YtcdajfiohhbdgaaBkSpec
import Derived.Test.YtcdajfiohhbdgaaListMem
namespace Go.Proofs.Ytcdajfiohhbdgaa.W
set_option linter.unusedVariables false
set_option linter.unusedSimpArgs false
open Go.ChangeShapes Go.WideShapes Go.ChangeAt Go.RowKit

def bkV (s : Bk) : List Value := [.int .i64 s.id, .int .i64 s.node, .int .i64 s.frm, .int .i64 s.til]
def bksV (l : List Bk) : List Value := l.flatMap bkV
theorem bksV_len (l : List Bk) : (bksV l).length = l.length * 4 := flat_len (n := 4) (fun _ => rfl) l
theorem bksV_app (a b : List Bk) : bksV (a ++ b) = bksV a ++ bksV b := by simp [bksV]
theorem bksV_one (s : Bk) : bksV [s] = bkV s := by simp [bksV]
theorem bksV_nil : bksV [] = [] := rfl
theorem bksV_cells (l : List Bk) : ∀ u ∈ bksV l, u.oneCell' = true := by
  intro u hu
  obtain ⟨s, _, hs⟩ := List.mem_flatMap.1 hu
  simp only [bkV, List.mem_cons, List.not_mem_nil, or_false] at hs
  rcases hs with rfl | rfl | rfl | rfl <;> rfl
theorem bksV_drop (l : List Bk) (k : Nat) : bksV (l.drop k) = (bksV l).drop (k * 4) := by
  induction k generalizing l with
  | zero => simp
  | succ k ih =>
    cases l with
    | nil => simp [bksV]
    | cons x r =>
      rw [List.drop_succ_cons, ih, show bksV (x :: r) = bkV x ++ bksV r from by simp [bksV], show (k + 1) * 4 = 4 + k * 4 by omega, ← List.drop_drop]
      rfl
/-- bookings as an argument: where they lie, and what it has room for -/
structure BkAt (w : World) (a : Option Addr) (cap : Nat) (l : List Bk) : Prop where
  row : RowAt w a (bksV l)
  le : l.length ≤ cap
  nil : a = none → cap = 0
theorem BkAt.later {w w' : World} {a : Option Addr} {cap : Nat} {l : List Bk} (h : BkAt w a cap l) (hb : Below w.heap.size w w') : BkAt w' a cap l := ⟨h.row.later hb, h.le, h.nil⟩
/-- the first of them -/
theorem RowAt.fst {w : World} {a : Option Addr} {x y : List Value} (h : RowAt w a (x ++ y)) : RowAt w a x := by
  rcases h with h | ⟨b, off, rfl, hl, hc⟩
  · exact .inl (List.append_eq_nil_iff.1 h).1
  · exact .inr ⟨b, off, rfl, hl, fun i u hu => hc i u (by
      have hi : i < x.length := by
        rcases Nat.lt_or_ge i x.length with h | h
        · exact h
        · rw [List.getElem?_eq_none h] at hu; cases hu
      rw [List.getElem?_append_left hi]; exact hu)⟩
theorem BkAt.take {w : World} {a : Option Addr} {cap : Nat} {l : List Bk} (h : BkAt w a cap l) (k : Nat) : BkAt w a cap (l.take k) :=
  ⟨RowAt.fst (y := bksV (l.drop k)) (by rw [← bksV_app, List.take_append_drop]; exact h.row), Nat.le_trans (by simp; omega) h.le, h.nil⟩
theorem BkAt.from {w : World} {b off cap : Nat} {l : List Bk} (h : BkAt w (some ⟨b, off, none⟩) cap l) {k : Nat} (hk : k ≤ l.length) : BkAt w (some ⟨b, off + k * 4, none⟩) (cap - k) (l.drop k) :=
  ⟨by rw [bksV_drop]; exact h.row.drop _, by have := h.le; simp; omega, fun h => (by cases h)⟩
/-- one's cells -/
theorem RowAt.bk {w : World} {a : Option Addr} {l : List Bk} (h : RowAt w a (bksV l)) {k : Nat} (hk : k < l.length) : ∃ b off, a = some ⟨b, off, none⟩ ∧ b < w.heap.size ∧
    w.cell? ⟨b, off + k * 4, none⟩ = some (.int .i64 l[k].id) ∧ w.cell? ⟨b, off + k * 4 + 1, none⟩ = some (.int .i64 l[k].node) ∧
    w.cell? ⟨b, off + k * 4 + 2, none⟩ = some (.int .i64 l[k].frm) ∧ w.cell? ⟨b, off + k * 4 + 3, none⟩ = some (.int .i64 l[k].til) := by
  obtain ⟨b, off, e, hl, hc⟩ := h.row (by rw [bksV_len]; omega)
  have at' : ∀ j, j < 4 → ∀ u, (bkV l[k])[j]? = some u → w.cell? ⟨b, off + (k * 4 + j), none⟩ = some u := fun j hj u hu => hc _ u (by rw [bksV, flat_at (n := 4) (fun _ => rfl) _ _ _ hk hj]; exact hu)
  exact ⟨b, off, e, hl, at' 0 (by omega) _ rfl, by rw [Nat.add_assoc]; exact at' 1 (by omega) _ rfl, by rw [Nat.add_assoc]; exact at' 2 (by omega) _ rfl, by rw [Nat.add_assoc]; exact at' 3 (by omega) _ rfl⟩
theorem own_bk {w : World} {base : Nat} {e : TypeId} {v : Value} {l : List Bk} (h : w.ownsRow base e 4 v l.length (bksV l)) : ∃ a cap, v = .slice a l.length cap ∧ BkAt w a cap l := by
  obtain ⟨a, cap, e, h1, h2, h3, _⟩ := own_shape h
  exact ⟨a, cap, e, h2, h1, h3⟩
theorem max2_run (P : Program) (ts : Array TypeId) (t : TypeId) (a b : Int) (W : World) : (Builtin.max_ ts t #[.int .i64 a, .int .i64 b]).run P W = .ok (.int .i64 (if a < b then b else a)) W := by
  simp [Builtin.max_, Builtin.max2]
theorem least_run (P : Program) (ts : Array TypeId) (t : TypeId) (a b : Int) (W : World) : (Builtin.min_ ts t #[.int .i64 a, .int .i64 b]).run P W = .ok (.int .i64 (if b < a then b else a)) W := by
  simp [Builtin.min_, Builtin.min2]
theorem infoBk : (Try.prog.info? 65).map (fun i => (i.zero, i.size, i.bytes)) = some (some (.agg #[.int .i64 0, .int .i64 0, .int .i64 0, .int .i64 0]), 4, 32) := by kernel_rfl
end Go.Proofs.Ytcdajfiohhbdgaa.W
