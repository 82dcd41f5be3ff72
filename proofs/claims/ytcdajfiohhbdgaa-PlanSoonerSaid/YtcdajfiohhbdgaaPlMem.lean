/-
  Shares, vectors and whole numbers in memory: lists of them, wherever they lie.
-/
import Derived.Test.YtcdajfiohhbdgaaPlSpec
import Derived.Test.YtcdajfiohhbdgaaListMem
namespace Go.Proofs.Ytcdajfiohhbdgaa.W
set_option linter.unusedVariables false
set_option linter.unusedSimpArgs false
open Go.ChangeShapes Go.WideShapes Go.ChangeAt Go.RowKit

def shV (s : Sh) : List Value := [.int .i64 s.node, .int .i64 s.many]
def shsV (l : List Sh) : List Value := l.flatMap shV
theorem shsV_len (l : List Sh) : (shsV l).length = l.length * 2 := flat_len (n := 2) (fun _ => rfl) l
theorem shsV_app (a b : List Sh) : shsV (a ++ b) = shsV a ++ shsV b := by simp [shsV]
theorem shsV_one (s : Sh) : shsV [s] = shV s := by simp [shsV]
theorem shsV_nil : shsV [] = [] := rfl
def vcV (v : V) : List Value := [.int .i64 v.cpu, .int .i64 v.mem, .int .i64 v.gpu, .int .i64 v.lic]
def vcsV (l : List V) : List Value := l.flatMap vcV
theorem vcsV_len (l : List V) : (vcsV l).length = l.length * 4 := flat_len (n := 4) (fun _ => rfl) l
theorem vcsV_app (a b : List V) : vcsV (a ++ b) = vcsV a ++ vcsV b := by simp [vcsV]
theorem vcsV_one (s : V) : vcsV [s] = vcV s := by simp [vcsV]
/-- shares, vectors, numbers as an argument: where they lie, and what it has room for -/
structure ShAt (w : World) (a : Option Addr) (cap : Nat) (l : List Sh) : Prop where
  row : RowAt w a (shsV l)
  le : l.length ≤ cap
  nil : a = none → cap = 0
structure VcAt (w : World) (a : Option Addr) (cap : Nat) (l : List V) : Prop where
  row : RowAt w a (vcsV l)
  le : l.length ≤ cap
  nil : a = none → cap = 0
structure NmAt (w : World) (a : Option Addr) (cap : Nat) (l : List Int) : Prop where
  row : RowAt w a (vals l)
  le : l.length ≤ cap
  nil : a = none → cap = 0
theorem ShAt.later {w w' : World} {a : Option Addr} {cap : Nat} {l : List Sh} (h : ShAt w a cap l) (hb : Below w.heap.size w w') : ShAt w' a cap l := ⟨h.row.later hb, h.le, h.nil⟩
theorem VcAt.later {w w' : World} {a : Option Addr} {cap : Nat} {l : List V} (h : VcAt w a cap l) (hb : Below w.heap.size w w') : VcAt w' a cap l := ⟨h.row.later hb, h.le, h.nil⟩
theorem NmAt.later {w w' : World} {a : Option Addr} {cap : Nat} {l : List Int} (h : NmAt w a cap l) (hb : Below w.heap.size w w') : NmAt w' a cap l := ⟨h.row.later hb, h.le, h.nil⟩
/-- one's cells -/
theorem RowAt.sh {w : World} {a : Option Addr} {l : List Sh} (h : RowAt w a (shsV l)) {k : Nat} (hk : k < l.length) : ∃ b off, a = some ⟨b, off, none⟩ ∧ b < w.heap.size ∧
    w.cell? ⟨b, off + k * 2, none⟩ = some (.int .i64 l[k].node) ∧ w.cell? ⟨b, off + k * 2 + 1, none⟩ = some (.int .i64 l[k].many) := by
  obtain ⟨b, off, e, hl, hc⟩ := h.row (by rw [shsV_len]; omega)
  have at' : ∀ j, j < 2 → ∀ u, (shV l[k])[j]? = some u → w.cell? ⟨b, off + (k * 2 + j), none⟩ = some u := fun j hj u hu => hc _ u (by rw [shsV, flat_at (n := 2) (fun _ => rfl) _ _ _ hk hj]; exact hu)
  exact ⟨b, off, e, hl, at' 0 (by omega) _ rfl, by rw [Nat.add_assoc]; exact at' 1 (by omega) _ rfl⟩
theorem RowAt.vc {w : World} {a : Option Addr} {l : List V} (h : RowAt w a (vcsV l)) {k : Nat} (hk : k < l.length) : ∃ b off, a = some ⟨b, off, none⟩ ∧ b < w.heap.size ∧
    w.cell? ⟨b, off + k * 4, none⟩ = some (.int .i64 l[k].cpu) ∧ w.cell? ⟨b, off + k * 4 + 1, none⟩ = some (.int .i64 l[k].mem) ∧
    w.cell? ⟨b, off + k * 4 + 2, none⟩ = some (.int .i64 l[k].gpu) ∧ w.cell? ⟨b, off + k * 4 + 3, none⟩ = some (.int .i64 l[k].lic) := by
  obtain ⟨b, off, e, hl, hc⟩ := h.row (by rw [vcsV_len]; omega)
  have at' : ∀ j, j < 4 → ∀ u, (vcV l[k])[j]? = some u → w.cell? ⟨b, off + (k * 4 + j), none⟩ = some u := fun j hj u hu => hc _ u (by rw [vcsV, flat_at (n := 4) (fun _ => rfl) _ _ _ hk hj]; exact hu)
  exact ⟨b, off, e, hl, at' 0 (by omega) _ rfl, by rw [Nat.add_assoc]; exact at' 1 (by omega) _ rfl, by rw [Nat.add_assoc]; exact at' 2 (by omega) _ rfl, by rw [Nat.add_assoc]; exact at' 3 (by omega) _ rfl⟩
theorem RowAt.nm {w : World} {a : Option Addr} {l : List Int} (h : RowAt w a (vals l)) {k : Nat} (hk : k < l.length) : ∃ b off, a = some ⟨b, off, none⟩ ∧ b < w.heap.size ∧ w.cell? ⟨b, off + k, none⟩ = some (.int .i64 l[k]) := by
  obtain ⟨b, off, e, hl, hc⟩ := h.row (by rw [vals_len]; omega)
  exact ⟨b, off, e, hl, hc _ _ (vals_at l k hk)⟩
theorem own_sh {w : World} {base : Nat} {e : TypeId} {v : Value} {l : List Sh} (h : w.ownsRow base e 2 v l.length (shsV l)) : ∃ a cap, v = .slice a l.length cap ∧ ShAt w a cap l := by
  obtain ⟨a, cap, e, h1, h2, h3, _⟩ := own_shape h
  exact ⟨a, cap, e, h2, h1, h3⟩
theorem own_vc {w : World} {base : Nat} {e : TypeId} {v : Value} {l : List V} (h : w.ownsRow base e 4 v l.length (vcsV l)) : ∃ a cap, v = .slice a l.length cap ∧ VcAt w a cap l := by
  obtain ⟨a, cap, e, h1, h2, h3, _⟩ := own_shape h
  exact ⟨a, cap, e, h2, h1, h3⟩
theorem infoSh : (Try.prog.info? 51).map (fun i => (i.zero, i.size, i.bytes)) = some (some (.agg #[.int .i64 0, .int .i64 0]), 2, 16) := by kernel_rfl
theorem infoVc : (Try.prog.info? 34).map (fun i => (i.zero, i.size, i.bytes)) = some (some (.agg #[.int .i64 0, .int .i64 0, .int .i64 0, .int .i64 0]), 4, 32) := by kernel_rfl
end Go.Proofs.Ytcdajfiohhbdgaa.W
