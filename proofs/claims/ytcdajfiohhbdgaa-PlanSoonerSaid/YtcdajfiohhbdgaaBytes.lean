/-
  Slices in memory: one that reads as a list, wherever it lies; one that the call made itself; appends of one element and of many. slices.Clone of bytes.
-/
import Derived.Test.YtcdajfiohhbdgaaCodecSpec
import Derived.WalkKit
import Derived.ProofKit
import Derived.WalkLawsBesides
import Derived.Lib.Hide
import Derived.Lib.SliceRun
import Derived.Below
import Derived.Laws.AppendOwn
import Derived.Laws.OwnMore
import Derived.Laws.AppendOwnNone
import Derived.Deep.Draws
namespace Go.Proofs.Ytcdajfiohhbdgaa.W
set_option linter.unusedVariables false
set_option linter.unusedSimpArgs false
open Go.ChangeShapes Go.WideShapes Go.ChangeAt Go.RowKit

/-- integers, bytes as values; closed to the walk -/
def vals (xs : List Int) : List Value := xs.map (Value.int .i64)
def bytesV (l : List UInt8) : List Value := l.map fun c => Value.int .u8 (c.toNat : Int)
theorem vals_len (xs : List Int) : (vals xs).length = xs.length := by simp [vals]
theorem vals_snoc (xs : List Int) (x : Int) : vals (xs ++ [x]) = vals xs ++ [.int .i64 x] := by simp [vals]
theorem vals_at (xs : List Int) (i : Nat) (h : i < xs.length) : (vals xs)[i]? = some (.int .i64 xs[i]) := by simp [vals, h]
theorem bytesV_len (l : List UInt8) : (bytesV l).length = l.length := by simp [bytesV]
theorem bytesV_app (a b : List UInt8) : bytesV (a ++ b) = bytesV a ++ bytesV b := by simp [bytesV]
theorem bytesV_at (l : List UInt8) (i : Nat) (h : i < l.length) : (bytesV l)[i]? = some (.int .u8 ((l[i]'h).toNat : Int)) := by simp [bytesV, h]
theorem bytesV_one (l : List UInt8) : ∀ u ∈ bytesV l, u.oneCell' = true := by
  intro u hu
  obtain ⟨c, _, rfl⟩ := List.mem_map.1 hu
  rfl
theorem bytesV_nil : bytesV [] = [] := rfl
theorem bytesV_drop (l : List UInt8) (k : Nat) : bytesV (l.drop k) = (bytesV l).drop k := by simp [bytesV]

/-- a slice's address such that these stand there, wherever that is; where there are none, it is whatever -/
def RowAt (w : World) (a : Option Addr) (xs : List Value) : Prop :=
  xs = [] ∨ ∃ b off, a = some ⟨b, off, none⟩ ∧ b < w.heap.size ∧ ∀ i u, xs[i]? = some u → w.cell? ⟨b, off + i, none⟩ = some u
theorem RowAt.later {w w' : World} {a : Option Addr} {xs : List Value} (h : RowAt w a xs) (hb : Below w.heap.size w w') : RowAt w' a xs := by
  rcases h with rfl | ⟨b, off, rfl, hl, hc⟩
  · exact .inl rfl
  · exact .inr ⟨b, off, rfl, Nat.lt_of_lt_of_le hl hb.size, fun i u hu => (hb.cell (p := ⟨b, off + i, none⟩) hl).trans (hc i u hu)⟩
theorem RowAt.alloc {w : World} {a : Option Addr} {xs : List Value} (h : RowAt w a xs) (o : Obj) : RowAt (w.alloc o) a xs := h.later ((Below.refl _ w).alloc (Nat.le_refl _) o)
/-- where another block alone was turned -/
theorem RowAt.grown {w w' : World} {a : Option Addr} {xs : List Value} {row : Option Nat} (h : RowAt w a xs) (hg : w.grownBy w' row) (hr : ∀ b off, a = some ⟨b, off, none⟩ → xs ≠ [] → some b ≠ row) : RowAt w' a xs := by
  by_cases hx : xs = []
  · exact .inl hx
  · rcases h with rfl | ⟨b, off, rfl, hl, hc⟩
    · exact absurd rfl hx
    · exact .inr ⟨b, off, rfl, Nat.lt_of_lt_of_le hl hg.size, fun i u hu => (World.cell?_of_block (a := ⟨b, off + i, none⟩) (hg.block b hl (hr b off rfl hx))).trans (hc i u hu)⟩
/-- where there is one, its cells -/
theorem RowAt.row {w : World} {a : Option Addr} {xs : List Value} (h : RowAt w a xs) (hp : 0 < xs.length) :
    ∃ b off, a = some ⟨b, off, none⟩ ∧ b < w.heap.size ∧ ∀ i u, xs[i]? = some u → w.cell? ⟨b, off + i, none⟩ = some u := by
  rcases h with rfl | h
  · simp at hp
  · exact h
theorem RowAt.drop {w : World} {b off : Nat} {xs : List Value} (h : RowAt w (some ⟨b, off, none⟩) xs) (k : Nat) : RowAt w (some ⟨b, off + k, none⟩) (xs.drop k) := by
  rcases h with rfl | ⟨b', off', e, hl, hc⟩
  · exact .inl (by simp)
  · injection e with e
    injection e with e1 e2
    subst e1 e2
    refine .inr ⟨_, _, rfl, hl, fun i u hu => ?_⟩
    rw [Nat.add_assoc]
    exact hc _ u (by rw [← hu, List.getElem?_drop])
theorem RowAt.none_ {w : World} {xs : List Value} (h : RowAt w none xs) : xs = [] := by
  rcases h with h | ⟨b, off, e, _⟩
  · exact h
  · cases e

/-- one of the call's own, behind a call that keeps all that is older than it -/
theorem own_later {w w' : World} {base : Nat} {e : TypeId} {s n : Nat} {v : Value} {xs : List Value} (h : w.ownsRow base e s v n xs) (hb : Below w.heap.size w w') : w'.ownsRow base e s v n xs := by
  have hl := h.lt
  obtain ⟨h0, h1 | ⟨g, cap, cur, rfl, hg, hh, hr⟩⟩ := h
  · exact ⟨h0, .inl h1⟩
  · exact ⟨h0, .inr ⟨g, cap, cur, rfl, hg, (hb.block g (hl g rfl).2).trans hh, hr⟩⟩
theorem own_more {w : World} {base base' : Nat} {e : TypeId} {s n : Nat} {v : Value} {xs : List Value} (h : w.ownsRow base e s v n xs) (hB : base' ≤ base) : w.ownsRow base' e s v n xs := by
  obtain ⟨h0, h1 | ⟨g, cap, cur, rfl, hg, hh⟩⟩ := h
  · exact ⟨h0, .inl h1⟩
  · exact ⟨h0, .inr ⟨g, cap, cur, rfl, Nat.le_trans hB hg, hh⟩⟩
/-- what it reads as -/
theorem own_form {w : World} {base : Nat} {e : TypeId} {n : Nat} {v : Value} {xs : List Value} (h : w.ownsRow base e 1 v n xs) :
    ∃ a cap, v = .slice a n cap ∧ n ≤ cap ∧ RowAt w a xs ∧ ((a = none ∧ n = 0 ∧ cap = 0) ∨ ∃ g, a = some ⟨g, 0, none⟩ ∧ base ≤ g ∧ ∃ cur, w.heap[g]? = some (.cells cur e (0, 0))) := by
  have hc := fun g => h.cells (g := g)
  have hlt := h.lt
  obtain ⟨hl, h | ⟨g, cap, cur, rfl, hg, hh, hn, _⟩⟩ := h
  · obtain ⟨rfl, rfl⟩ := h
    have hx : xs = [] := by simpa using hl
    exact ⟨none, 0, rfl, Nat.le_refl _, .inl hx, .inl ⟨rfl, rfl, rfl⟩⟩
  · refine ⟨_, cap, rfl, hn, .inr ⟨g, 0, rfl, (hlt g rfl).2, fun i u hu => ?_⟩, .inr ⟨g, rfl, hg, cur, hh⟩⟩
    have := hc g rfl i u hu
    rwa [add_plain] at this
/-- one just made, as it was written out -/
theorem row_new (w : World) (cs : Array Value) (t : TypeId) : RowAt (w.alloc (.cells cs t)) (some ⟨w.heap.size, 0, none⟩) cs.toList := by
  refine .inr ⟨_, _, rfl, by simp, fun i u hu => ?_⟩
  rw [cell_of_row _ _ _ cs t (0, 0) (heap_alloc_new w _), Nat.zero_add]
  simpa using hu

/-- what an append of one element to a slice of the call's own leaves -/
theorem push {P : Program} {ops : Array Oper} {rest : List Oper} {o : Oper} {a : Act} {Q : Exit → Act → World → Prop} (s x : Operand) (t : TypeId)
    (e : TypeId) (bytes : Nat) (z : Value) (i : TypeInfo) (ht : P.underlying t = some (.slice e)) (hi : P.info? e = some i) (hz : i.zero = some z) (hsize : i.size = 1) (hby : i.bytes = bytes) (hzs : z.cells.size = 1)
    (base B n : Nat) (xs : List Value) (u : Value) (v : Value) (ty : TypeId) (w0 wr : World) (hgd : o.guard = none)
    (ho : o.op = .call { callee := .builtin .append, args := #[s, x], argTypes := #[t, t] })
    (hs : a.eval s = v) (hx : a.eval x = .slice (some ⟨wr.heap.size, 0, none⟩) 1 1)
    (hown : wr.ownsRow base e 1 v n xs) (hbel : Below B w0 wr) (hB : B ≤ base) (hbase : base ≤ wr.heap.size)
    (h1 : u.oneCell' = true) (hn : (n + 1) * bytes ≤ 140737488355328) (hb0 : 0 < bytes)
    (h : ∀ v' w', w'.ownsRow base e 1 v' (n + 1) (xs ++ [u]) → Below B w0 w' → wpList P ops Q rest (a.put o.dst v') w') :
    wpList P ops Q (o :: rest) a (wr.alloc (.cells #[u] ty)) := by
  have hw := hbel.size
  refine wpList_append_own _ hgd s x t ho base e i z 1 bytes ht hi hz hsize hby hzs (by decide) v n xs hs (hown.alloc _) ⟨wr.heap.size, 0, none⟩ 1 1 [u] hx rfl ?_ ?_ ?_ hn ?_ ?_
  · intro j y hj
    match j, hj with
    | 0, hj => simp at hj; subst hj; simp [Addr.add]
  · intro y hy; simp at hy; subst hy; exact h1
  · have : n + 1 ≤ (n + 1) * bytes := Nat.le_mul_of_pos_right _ hb0
    unfold maxLen; omega
  · simp; omega
  · intro v' w' o' g' _
    refine h v' w' o' ?_
    refine (hbel.alloc (by omega) _).grown g' (by simp; omega) ?_
    intro k hk
    exact Nat.le_trans hB (hown.lt k hk).1
/-- the same, and what it leaves of the rest -/
theorem pushG {P : Program} {ops : Array Oper} {rest : List Oper} {o : Oper} {a : Act} {Q : Exit → Act → World → Prop} (s x : Operand) (t : TypeId)
    (e : TypeId) (bytes : Nat) (z : Value) (i : TypeInfo) (ht : P.underlying t = some (.slice e)) (hi : P.info? e = some i) (hz : i.zero = some z) (hsize : i.size = 1) (hby : i.bytes = bytes) (hzs : z.cells.size = 1)
    (base n : Nat) (xs : List Value) (u : Value) (v : Value) (ty : TypeId) (wr : World) (hgd : o.guard = none)
    (ho : o.op = .call { callee := .builtin .append, args := #[s, x], argTypes := #[t, t] })
    (hs : a.eval s = v) (hx : a.eval x = .slice (some ⟨wr.heap.size, 0, none⟩) 1 1)
    (hown : wr.ownsRow base e 1 v n xs) (hbase : base ≤ wr.heap.size)
    (h1 : u.oneCell' = true) (hn : (n + 1) * bytes ≤ 140737488355328) (hb0 : 0 < bytes)
    (h : ∀ v' w', w'.ownsRow base e 1 v' (n + 1) (xs ++ [u]) → (wr.alloc (.cells #[u] ty)).grownBy w' v.ownBlock → wpList P ops Q rest (a.put o.dst v') w') :
    wpList P ops Q (o :: rest) a (wr.alloc (.cells #[u] ty)) := by
  refine wpList_append_own _ hgd s x t ho base e i z 1 bytes ht hi hz hsize hby hzs (by decide) v n xs hs (hown.alloc _) ⟨wr.heap.size, 0, none⟩ 1 1 [u] hx rfl ?_ ?_ ?_ hn ?_ ?_
  · intro j y hj
    match j, hj with
    | 0, hj => simp at hj; subst hj; simp [Addr.add]
  · intro y hy; simp at hy; subst hy; exact h1
  · have : n + 1 ≤ (n + 1) * bytes := Nat.le_mul_of_pos_right _ hb0
    unfold maxLen; omega
  · simp; omega
  · intro v' w' o' g' _
    exact h v' w' o' g'
/-- what an append of many leaves: they stand wherever -/
theorem pushAll {P : Program} {ops : Array Oper} {rest : List Oper} {o : Oper} {a : Act} {Q : Exit → Act → World → Prop} (s x : Operand) (t : TypeId)
    (e : TypeId) (z : Value) (i : TypeInfo) (ht : P.underlying t = some (.slice e)) (hi : P.info? e = some i) (hz : i.zero = some z) (hsize : i.size = 1) (hby : i.bytes = 1) (hzs : z.cells.size = 1)
    (base B n m c : Nat) (xs news : List Value) (v : Value) (d : Addr) (w0 wr : World) (hgd : o.guard = none)
    (ho : o.op = .call { callee := .builtin .append, args := #[s, x], argTypes := #[t, t] })
    (hs : a.eval s = v) (hx : a.eval x = .slice (some d) m c) (hm : m = news.length)
    (hown : wr.ownsRow base e 1 v n xs) (hrow : RowAt wr (some d) news) (hbel : Below B w0 wr) (hB : B ≤ base) (hbase : base ≤ wr.heap.size)
    (h1 : ∀ u ∈ news, u.oneCell' = true) (hn : n + m ≤ 140737488355328)
    (h : ∀ v' w', w'.ownsRow base e 1 v' (n + m) (xs ++ news) → Below B w0 w' → wpList P ops Q rest (a.put o.dst v') w') :
    wpList P ops Q (o :: rest) a wr := by
  have hw := hbel.size
  refine wpList_append_own _ hgd s x t ho base e i z 1 1 ht hi hz hsize hby hzs (by decide) v n xs hs hown d m c news hx (by omega) ?_ h1 ?_ (by omega) hbase ?_
  · intro j y hj
    rcases hrow with rfl | ⟨b, off, e, hl, hc⟩
    · simp at hj
    · injection e with e
      subst e
      rw [add_plain]
      exact hc j y hj
  · unfold maxLen; omega
  · intro v' w' o' g' _
    refine h v' w' o' (hbel.grown g' (by omega) ?_)
    intro k hk
    exact Nat.le_trans hB (hown.lt k hk).1

/-- the same, where there may be none -/
theorem pushAny {P : Program} {ops : Array Oper} {rest : List Oper} {o : Oper} {a : Act} {Q : Exit → Act → World → Prop} (s x : Operand) (t : TypeId)
    (e : TypeId) (z : Value) (i : TypeInfo) (ht : P.underlying t = some (.slice e)) (hi : P.info? e = some i) (hz : i.zero = some z) (hsize : i.size = 1) (hby : i.bytes = 1) (hzs : z.cells.size = 1)
    (base B n m c : Nat) (xs news : List Value) (v : Value) (d : Option Addr) (w0 wr : World) (hgd : o.guard = none)
    (ho : o.op = .call { callee := .builtin .append, args := #[s, x], argTypes := #[t, t] })
    (hs : a.eval s = v) (hx : a.eval x = .slice d m c) (hm : m = news.length) (hc : d = none → c = 0)
    (hown : wr.ownsRow base e 1 v n xs) (hrow : RowAt wr d news) (hbel : Below B w0 wr) (hB : B ≤ base) (hbase : base ≤ wr.heap.size)
    (h1 : ∀ u ∈ news, u.oneCell' = true) (hn : n + m ≤ 140737488355328)
    (h : ∀ v' w', w'.ownsRow base e 1 v' (n + m) (xs ++ news) → Below B w0 w' → wpList P ops Q rest (a.put o.dst v') w') :
    wpList P ops Q (o :: rest) a wr := by
  cases d with
  | some d => exact pushAll s x t e z i ht hi hz hsize hby hzs base B n m c xs news v d w0 wr hgd ho hs hx hm hown hrow hbel hB hbase h1 hn h
  | none =>
    have hx0 := hrow.none_
    subst hx0
    simp only [List.length_nil] at hm
    subst hm
    rw [hc rfl] at hx
    exact wpList_append_own_none hgd s x t ho base e i 1 ht hi v n xs hs hown hx (h v wr (by simpa using hown) hbel)

theorem info8 : (Try.prog.info? 5).map (fun i => (i.zero, i.size, i.bytes)) = some (some (.int .u8 0), 1, 1) := by kernel_rfl

end Go.Proofs.Ytcdajfiohhbdgaa.W
