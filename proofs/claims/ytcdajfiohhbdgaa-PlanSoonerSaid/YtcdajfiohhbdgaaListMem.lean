/-
  Lists of structs in memory: one of the call's own; appends of elements of several cells.
-/
import Derived.Test.YtcdajfiohhbdgaaBytes
import Derived.Test.YtcdajfiohhbdgaaFrameRows
import Derived.Test.YtcdajfiohhbdgaaVec
import Derived.Lib.QuietBelow
namespace Go.Proofs.Ytcdajfiohhbdgaa.W
set_option linter.unusedVariables false
set_option linter.unusedSimpArgs false
open Go.ChangeShapes Go.WideShapes Go.ChangeAt Go.RowKit

/-- a contract that ends in 'Below', in a world of the class of a region that reads -/
theorem quiet_bel {P : Program} {f : FuncId} {args : Array Value} {w : World} {d : Nat} {os : Array Obj} {v : Value}
    (h : ∀ w', Calls P f args w' fun e w'' => e = .returned v ∧ Below w'.heap.size w' w'') : Calls P f args (Go.Sort.grow (redrawn w d) os) fun e w'' => e = .returned v ∧ ∃ p : Regrown, w'' = Go.Sort.grow (redrawn w p.d) p.os :=
  Calls.regrown_of (h _)
/-- one of the call's own, whatever its elements' cells -/
theorem own_shape {w : World} {base : Nat} {e : TypeId} {size n : Nat} {v : Value} {xs : List Value} (h : w.ownsRow base e size v n xs) :
    ∃ a cap, v = .slice a n cap ∧ n ≤ cap ∧ RowAt w a xs ∧ (a = none → cap = 0) ∧ (a = none ∨ ∃ g, a = some ⟨g, 0, none⟩ ∧ base ≤ g ∧ g < w.heap.size) := by
  have hc := fun g => h.cells (g := g)
  have hlt := h.lt
  obtain ⟨hl, h | ⟨g, cap, cur, rfl, hg, hh, hn, _⟩⟩ := h
  · obtain ⟨rfl, rfl⟩ := h
    have hx : xs = [] := by simpa using hl
    exact ⟨none, 0, rfl, Nat.le_refl _, .inl hx, fun _ => rfl, .inl rfl⟩
  · refine ⟨_, cap, rfl, hn, .inr ⟨g, 0, rfl, (hlt g rfl).2, fun i u hu => ?_⟩, fun h => (by cases h), .inr ⟨g, rfl, hg, (hlt g rfl).2⟩⟩
    have := hc g rfl i u hu
    rwa [add_plain] at this
/-- an append of elements of several cells, wherever they stand -/
theorem pushBig {P : Program} {ops : Array Oper} {rest : List Oper} {o : Oper} {a : Act} {Q : Exit → Act → World → Prop} (s x : Operand) (t : TypeId)
    (e : TypeId) (size bytes : Nat) (z : Value) (i : TypeInfo) (ht : P.underlying t = some (.slice e)) (hi : P.info? e = some i) (hz : i.zero = some z) (hsize : i.size = size) (hby : i.bytes = bytes) (hzs : z.cells.size = size) (hsz : 0 < size) (hb0 : 0 < bytes)
    (base B n m c : Nat) (xs news : List Value) (v : Value) (d : Addr) (w0 wr : World) (hgd : o.guard = none)
    (ho : o.op = .call { callee := .builtin .append, args := #[s, x], argTypes := #[t, t] })
    (hs : a.eval s = v) (hx : a.eval x = .slice (some d) m c) (hm : news.length = m * size)
    (hown : wr.ownsRow base e size v n xs) (hrow : RowAt wr (some d) news) (hbel : Below B w0 wr) (hB : B ≤ base) (hbase : base ≤ wr.heap.size)
    (h1 : ∀ u ∈ news, u.oneCell' = true) (hn : (n + m) * bytes ≤ 140737488355328)
    (h : ∀ v' w', w'.ownsRow base e size v' (n + m) (xs ++ news) → Below B w0 w' → (v' = .slice none 0 0 ↔ v = .slice none 0 0 ∧ m = 0) → wpList P ops Q rest (a.put o.dst v') w') :
    wpList P ops Q (o :: rest) a wr := by
  have hw := hbel.size
  refine wpList_append_own _ hgd s x t ho base e i z size bytes ht hi hz hsize hby hzs hsz v n xs hs hown d m c news hx hm ?_ h1 ?_ hn hbase ?_
  · intro j y hj
    rcases hrow with rfl | ⟨b, off, e, hl, hc⟩
    · simp at hj
    · injection e with e
      subst e
      rw [add_plain]
      exact hc j y hj
  · have : n + m ≤ (n + m) * bytes := Nat.le_mul_of_pos_right _ hb0
    unfold maxLen; omega
  · intro v' w' o' g' hnil
    refine h v' w' o' (hbel.grown g' (by omega) ?_) hnil
    intro k hk
    exact Nat.le_trans hB (hown.lt k hk).1
/-- one element, just written out -/
theorem pushOne {P : Program} {ops : Array Oper} {rest : List Oper} {o : Oper} {a : Act} {Q : Exit → Act → World → Prop} (s x : Operand) (t : TypeId)
    (e : TypeId) (size bytes : Nat) (z : Value) (i : TypeInfo) (ht : P.underlying t = some (.slice e)) (hi : P.info? e = some i) (hz : i.zero = some z) (hsize : i.size = size) (hby : i.bytes = bytes) (hzs : z.cells.size = size) (hsz : 0 < size) (hb0 : 0 < bytes)
    (base B n : Nat) (xs : List Value) (us : Array Value) (v : Value) (ty : TypeId) (w0 wr : World) (hgd : o.guard = none)
    (ho : o.op = .call { callee := .builtin .append, args := #[s, x], argTypes := #[t, t] })
    (hs : a.eval s = v) (hx : a.eval x = .slice (some ⟨wr.heap.size, 0, none⟩) 1 1) (hm : us.size = 1 * size)
    (hown : wr.ownsRow base e size v n xs) (hbel : Below B w0 wr) (hB : B ≤ base) (hbase : base ≤ wr.heap.size)
    (h1 : ∀ u ∈ us.toList, u.oneCell' = true) (hn : (n + 1) * bytes ≤ 140737488355328)
    (h : ∀ v' w', w'.ownsRow base e size v' (n + 1) (xs ++ us.toList) → Below B w0 w' → wpList P ops Q rest (a.put o.dst v') w') :
    wpList P ops Q (o :: rest) a (wr.alloc (.cells us ty)) := by
  have hw := hbel.size
  refine pushBig s x t e size bytes z i ht hi hz hsize hby hzs hsz hb0 base B n 1 1 xs us.toList v ⟨wr.heap.size, 0, none⟩ w0 _ hgd ho hs hx (by simpa using hm) (hown.alloc _) (row_new _ _ _) (hbel.alloc (by omega) _) hB (by simp; omega) h1 hn ?_
  intro v' w' h1 h2 _
  exact h v' w' h1 h2
theorem take_app {α : Type} (l : List α) (k : Nat) (h : k < l.length) : l.take (k + 1) = l.take k ++ [l[k]] := by rw [List.take_succ_eq_append_getElem h]
theorem drop_at {α : Type} (l : List α) (k : Nat) (h : k < l.length) : l.drop k = l[k] :: l.drop (k + 1) := List.drop_eq_getElem_cons h
end Go.Proofs.Ytcdajfiohhbdgaa.W
