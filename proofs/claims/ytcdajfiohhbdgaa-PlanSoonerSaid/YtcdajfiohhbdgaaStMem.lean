/-
  Steps in memory: a list of them, wherever it lies; one of the call's own; an append of elements of several cells.
-/
import Derived.Test.YtcdajfiohhbdgaaStTimes
import Derived.Test.YtcdajfiohhbdgaaListMem
import Derived.Test.YtcdajfiohhbdgaaFrameRows
import Derived.Test.YtcdajfiohhbdgaaVec
namespace Go.Proofs.Ytcdajfiohhbdgaa.W
set_option linter.unusedVariables false
set_option linter.unusedSimpArgs false
open Go.ChangeShapes Go.WideShapes Go.ChangeAt Go.RowKit

def stV (s : St) : List Value := [.int .i64 s.at_, .int .i64 s.free.cpu, .int .i64 s.free.mem, .int .i64 s.free.gpu, .int .i64 s.free.lic]
def stsV (l : List St) : List Value := l.flatMap stV
theorem stsV_len (l : List St) : (stsV l).length = l.length * 5 := flat_len (n := 5) (fun _ => rfl) l
theorem stsV_app (a b : List St) : stsV (a ++ b) = stsV a ++ stsV b := by simp [stsV]
theorem stsV_one (s : St) : stsV [s] = stV s := by simp [stsV]
theorem stsV_nil : stsV [] = [] := rfl
theorem stsV_cells (l : List St) : ∀ u ∈ stsV l, u.oneCell' = true := by
  intro u hu
  obtain ⟨s, _, hs⟩ := List.mem_flatMap.1 hu
  simp only [stV, List.mem_cons, List.not_mem_nil, or_false] at hs
  rcases hs with rfl | rfl | rfl | rfl | rfl <;> rfl
theorem stsV_drop (l : List St) (k : Nat) : stsV (l.drop k) = (stsV l).drop (k * 5) := by
  induction k generalizing l with
  | zero => simp
  | succ k ih =>
    cases l with
    | nil => simp [stsV]
    | cons s r =>
      have e : stsV (s :: r) = stV s ++ stsV r := rfl
      rw [List.drop_succ_cons, ih, e, show (k + 1) * 5 = (stV s).length + k * 5 by simp [stV]; omega, List.drop_append]
      simp
/-- steps as an argument: where they lie, and what it has room for -/
structure StAt (w : World) (a : Option Addr) (cap : Nat) (l : List St) : Prop where
  row : RowAt w a (stsV l)
  le : l.length ≤ cap
  nil : a = none → cap = 0
theorem StAt.later {w w' : World} {a : Option Addr} {cap : Nat} {l : List St} (h : StAt w a cap l) (hb : Below w.heap.size w w') : StAt w' a cap l := ⟨h.row.later hb, h.le, h.nil⟩
/-- a step's cells -/
theorem RowAt.step {w : World} {a : Option Addr} {l : List St} (h : RowAt w a (stsV l)) {k : Nat} (hk : k < l.length) : ∃ b off, a = some ⟨b, off, none⟩ ∧ b < w.heap.size ∧
    w.cell? ⟨b, off + k * 5, none⟩ = some (.int .i64 l[k].at_) ∧ w.cell? ⟨b, off + k * 5 + 1, none⟩ = some (.int .i64 l[k].free.cpu) ∧ w.cell? ⟨b, off + k * 5 + 2, none⟩ = some (.int .i64 l[k].free.mem) ∧
    w.cell? ⟨b, off + k * 5 + 3, none⟩ = some (.int .i64 l[k].free.gpu) ∧ w.cell? ⟨b, off + k * 5 + 4, none⟩ = some (.int .i64 l[k].free.lic) := by
  obtain ⟨b, off, e, hl, hc⟩ := h.row (by rw [stsV_len]; omega)
  have at' : ∀ j, j < 5 → ∀ u, (stV l[k])[j]? = some u → w.cell? ⟨b, off + (k * 5 + j), none⟩ = some u := fun j hj u hu => hc _ u (by rw [stsV, flat_at (n := 5) (fun _ => rfl) _ _ _ hk hj]; exact hu)
  exact ⟨b, off, e, hl, at' 0 (by omega) _ rfl, by rw [Nat.add_assoc]; exact at' 1 (by omega) _ rfl, by rw [Nat.add_assoc]; exact at' 2 (by omega) _ rfl, by rw [Nat.add_assoc]; exact at' 3 (by omega) _ rfl, by rw [Nat.add_assoc]; exact at' 4 (by omega) _ rfl⟩
/-- the first one's cells -/
theorem RowAt.first {w : World} {a : Option Addr} {l : List St} (h : RowAt w a (stsV l)) (hk : 0 < l.length) : ∃ b off, a = some ⟨b, off, none⟩ ∧ b < w.heap.size ∧
    w.cell? ⟨b, off, none⟩ = some (.int .i64 l[0].at_) ∧ w.cell? ⟨b, off + 1, none⟩ = some (.int .i64 l[0].free.cpu) ∧ w.cell? ⟨b, off + 2, none⟩ = some (.int .i64 l[0].free.mem) ∧
    w.cell? ⟨b, off + 3, none⟩ = some (.int .i64 l[0].free.gpu) ∧ w.cell? ⟨b, off + 4, none⟩ = some (.int .i64 l[0].free.lic) := by
  obtain ⟨b, off, e, hl, h0, h1, h2, h3, h4⟩ := h.step hk
  rw [Nat.zero_mul, Nat.add_zero] at h0 h1 h2 h3 h4
  exact ⟨b, off, e, hl, h0, h1, h2, h3, h4⟩
theorem own_st {w : World} {base : Nat} {e : TypeId} {v : Value} {l : List St} (h : w.ownsRow base e 5 v l.length (stsV l)) : ∃ a cap, v = .slice a l.length cap ∧ StAt w a cap l := by
  obtain ⟨a, cap, e, h1, h2, h3, _⟩ := own_shape h
  exact ⟨a, cap, e, h2, h1, h3⟩
theorem infoSt : (Try.prog.info? 101).map (fun i => (i.zero, i.size, i.bytes)) = some (some (.agg #[.int .i64 0, .int .i64 0, .int .i64 0, .int .i64 0, .int .i64 0]), 5, 40) := by kernel_rfl
end Go.Proofs.Ytcdajfiohhbdgaa.W
